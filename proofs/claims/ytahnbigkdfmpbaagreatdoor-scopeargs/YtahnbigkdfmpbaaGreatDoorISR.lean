/- The rules of show, one step further out. -/
import Derived.Test.YtahnbigkdfmpbaaGreatDoorISA
set_option linter.unusedVariables false
set_option linter.unusedSimpArgs false
namespace Go.Proofs.YtahnbigkdfmpbaaGreatDoor
open Go.RowKit
theorem fid0:fidOf 0=43:=rfl
theorem fid2:fidOf 2=72:=rfl
theorem fid4:fidOf 4=109:=rfl
theorem are1_any (f:Nat) (hR:RuleS f) (g fid:Nat) (hf:fidOf g=fid) (hg:g<5) (n d:Nat) (kids:List Sx) (ka:Option Addr) (kc:Nat) (W:World) (hd:d+1+f=65537) (hK:KdP n W (SxIn n W) kids ka) (hn:n≤W.heap.size)
  (hkl:kids.length≤1000000) (hb:∀ x∈kids,blk x≤1000000) :
  Calls Tryz.prog 68 #[.slice ka kids.length kc,.int .i64 (d:Nat),.slice (some ⟨W.heap.size,0,none⟩) 1 1] (W.alloc (.cells #[.func (.func fid) #[] #[]] 123)) fun e w'=>e=.returned (.bool (areB (okF f) kids [g]))∧Below W.heap.size W w':=by
 subst hf
 have hal:=below_alloc W (.cells #[fv g] 123)
 refine (are_any f hR [g] (by simpa using hg) n d kids ka kc W.heap.size 1 (W.alloc (.cells #[fv g] 123)) hd ((hK.keep (hal.mono hn)).mono fun _ _ h=>h.keep (hal.mono hn)) (Nat.le_trans hn hal.size) hkl (by simp) hb (by simp) ?_).mono fun e w' ⟨h1,h2⟩=>⟨h1,chain hal h2⟩
 intro j q hj
 match j,hj with
 | 0,hj=>simp at hj;subst hj;simp
theorem are2_any (f:Nat) (hR:RuleS f) (g g2 fid fid2:Nat) (hf:fidOf g=fid) (hf2:fidOf g2=fid2) (hg:g<5) (hg2:g2<5) (n d:Nat) (kids:List Sx) (ka:Option Addr) (kc:Nat) (W:World) (hd:d+1+f=65537) (hK:KdP n W (SxIn n W) kids ka) (hn:n≤W.heap.size)
  (hkl:kids.length≤1000000) (hb:∀ x∈kids,blk x≤1000000) :
  Calls Tryz.prog 68 #[.slice ka kids.length kc,.int .i64 (d:Nat),.slice (some ⟨W.heap.size,0,none⟩) 2 2] (W.alloc (.cells #[.func (.func fid) #[] #[],.func (.func fid2) #[] #[]] 123)) fun e w'=>e=.returned (.bool (areB (okF f) kids [g,g2]))∧Below W.heap.size W w':=by
 subst hf hf2
 have hal:=below_alloc W (.cells #[fv g,fv g2] 123)
 refine (are_any f hR [g,g2] (by simp;omega) n d kids ka kc W.heap.size 2 (W.alloc (.cells #[fv g,fv g2] 123)) hd ((hK.keep (hal.mono hn)).mono fun _ _ h=>h.keep (hal.mono hn)) (Nat.le_trans hn hal.size) hkl (by simp) hb (by simp) ?_).mono fun e w' ⟨h1,h2⟩=>⟨h1,chain hal h2⟩
 intro j q hj
 match j,hj with
 | 0,hj=>simp at hj;subst hj;simp
 | 1,hj=>simp at hj;subst hj;simp
theorem digits_len {l:List Bs} (h:l.length≠1):digitsB l=false:=by
 match l,h with
 | [],_=>rfl
 | [d],h=>exact absurd rfl h
 | a :: b :: l,_=>rfl
theorem KdP.all {n:Nat} {w w':World} {kids:List Sx} {a:Option Addr} (h:KdP n w (SxIn n w) kids a) (hb:Below n w w'):KdP n w' (SxIn n w') kids a:=(h.keep hb).mono fun _ _ h=>h.keep hb
theorem kids_small {t:Sx} (h:blk t≤1000000):∀ x∈t.kids,blk x≤1000000:=fun x hx=>by have:=blk_kid hx;omega
set_option maxRecDepth 100000 in
set_option maxHeartbeats 4000000 in
theorem eq_rule (f:Nat) (hR:RuleS f) (n d:Nat) (t:Sx) (v:Value) (w:World) (hd:d+1+f=65537) (h:SxIn n w t v) (hn:n≤w.heap.size) (hb:blk t≤1000000) :
  Calls Tryz.prog 109 #[v,.int .i64 (d:Nat)] w fun e w'=>e=.returned (.bool (eqB t))∧Below w.heap.size w w':=by
 obtain⟨ka,kc,na,nc,rfl,hN,hK⟩:=h.form
 have hkl:t.kids.length≤1000000:=by have:=blk_klen t;omega
 have hnl:t.names.length≤1000000:=by have:=blk_nlen t;omega
 have hks:=kids_small hb
 obtain⟨w1,hw1⟩:∃ w1,w1=w.alloc (.cells #[.int .i64 t.kind,.string (bs t.name),.slice ka t.kids.length kc,.slice na t.names.length nc,.int .i64 t.at_] 26):=⟨_,rfl⟩
 have hal:Below w.heap.size w w1:=by rw [hw1];exact below_alloc _ _
 have hn1:=Nat.le_trans hn hal.size
 have hB:Bx w1 w.heap.size (.int .i64 t.kind) (.string (bs t.name)) (.slice ka t.kids.length kc) (.slice na t.names.length nc) (.int .i64 t.at_):=by rw [hw1];exact bx_new _ _ _ _ _ _
 have Hw1:Hid (_=_):=hw1
 clear hw1
 obtain⟨x0,x1,x2,x3,x4⟩:=hB.cells
 have h1:=h.keep (hal.mono hn)
 have hN1:=hN.keep (hal.mono hn)
 have hK1:=hK.all (hal.mono hn)
 have e1:=bs_nil t.name
 have e2:=len_nil t.names
 have cN:=fun w=>sName_any t.name w (by have:=blk_name t;omega)
 have e3:=len_nilS t.kids
 have H:Hid (eqB t=(decide (t.kind=13) && (nameB t.name && (digitsB t.names && t.kids.isEmpty)))):=by
  have:decide (t.kids=[])=t.kids.isEmpty:=by cases t.kids <;> rfl
  rw [← this];rfl
 obtain⟨r,hr⟩:∃ r,eqB t=r:=⟨_,rfl⟩
 rw [hr]
 have HR:Hid ((decide (t.kind=13) && (nameB t.name && (digitsB t.names && t.kids.isEmpty)))=r):=by rw [← hr];exact H.out.symm
 clear H hr h hN hK h1 hK1
 by_cases hk:t.kind=13
 ·have k1:(t.kind == 13)=true:=by simp [hk]
  rw [decide_eq_true hk] at HR
  clear hk
  cases hq:nameB t.name
  ·rw [hq] at HR
   simp only [hq] at cN
   clear hq
   go_enter Tryz.func109,Tryz.ntmps109
   go_wp2_with fail
   rw [← Hw1.out]
   clear Hw1
   refine (cN _).mono ?_
   rintro e w' ⟨rfl,hw⟩
   rw [hw]
   go_wp2_with fail
   go_ret
   exact⟨ret_bool (by have:=HR.out;simpa using this),hal⟩
  ·rw [hq] at HR
   simp only [hq] at cN
   clear hq
   by_cases hl:t.names.length=1
   ·obtain⟨x,hx⟩:∃ x,t.names=[x]:=List.length_eq_one_iff.1 hl
    obtain⟨g,off,rfl,hg,c0⟩:=hN1.at (j:=0) (x:=x) (by rw [hx];rfl)
    have l1:((t.names.length:Int) == 1)=true:=by rw [hl];rfl
    have hdg:digitsB t.names=digB x:=by rw [hx];rfl
    rw [hdg] at HR
    have cD:=fun w=>sDigit_any x w
    have hpos:0<t.names.length:=by omega
    have HX:Hid (_=_):=hx
    clear hl hx hdg
    simp only [Nat.add_zero] at c0
    generalize digB x=q at *
    generalize bs x=X at *
    cases q
    all_goals
     go_enter Tryz.func109,Tryz.ntmps109
     go_wp2_with fail
     rw [← Hw1.out]
     clear Hw1
     refine (cN _).mono ?_
     rintro e w' ⟨rfl,hw⟩
     rw [hw]
     go_wp2_with fail
     refine (cD _).mono ?_
     rintro e w' ⟨rfl,hw⟩
     rw [hw]
     go_wp2_with fail
     go_ret
     exact⟨ret_bool (by have:=HR.out;simp at this;first | exact this | (rw [← this];exact e3) | (rw [← this,e3]) | simpa using this),hal⟩
   ·have l1:((t.names.length:Int) == 1)=false:=by simp;omega
    have hdg:digitsB t.names=false:=digits_len hl
    rw [hdg] at HR
    clear hl hdg
    go_enter Tryz.func109,Tryz.ntmps109
    go_wp2_with fail
    rw [← Hw1.out]
    clear Hw1
    refine (cN _).mono ?_
    rintro e w' ⟨rfl,hw⟩
    rw [hw]
    go_wp2_with fail
    go_ret
    exact⟨ret_bool (by have:=HR.out;simpa using this),hal⟩
 ·have k1:(t.kind == 13)=false:=by simp [hk]
  rw [decide_eq_false hk] at HR
  clear hk
  go_enter Tryz.func109,Tryz.ntmps109
  go_wp2_with fail
  rw [← Hw1.out]
  clear Hw1
  go_ret
  exact⟨ret_bool (by have:=HR.out;simpa using this),hal⟩
set_option maxRecDepth 100000 in
set_option maxHeartbeats 4000000 in
theorem face_rule (f:Nat) (hR:RuleS f) (n d:Nat) (t:Sx) (v:Value) (w:World) (hd:d+1+f=65537) (h:SxIn n w t v) (hn:n≤w.heap.size) (hb:blk t≤1000000) :
  Calls Tryz.prog 92 #[v,.int .i64 (d:Nat)] w fun e w'=>e=.returned (.bool (faceB (okF f) t))∧Below w.heap.size w w':=by
 obtain⟨ka,kc,na,nc,rfl,hN,hK⟩:=h.form
 have hkl:t.kids.length≤1000000:=by have:=blk_klen t;omega
 have hnl:t.names.length≤1000000:=by have:=blk_nlen t;omega
 have hks:=kids_small hb
 obtain⟨w1,hw1⟩:∃ w1,w1=w.alloc (.cells #[.int .i64 t.kind,.string (bs t.name),.slice ka t.kids.length kc,.slice na t.names.length nc,.int .i64 t.at_] 26):=⟨_,rfl⟩
 have hal:Below w.heap.size w w1:=by rw [hw1];exact below_alloc _ _
 have hn1:=Nat.le_trans hn hal.size
 have hB:Bx w1 w.heap.size (.int .i64 t.kind) (.string (bs t.name)) (.slice ka t.kids.length kc) (.slice na t.names.length nc) (.int .i64 t.at_):=by rw [hw1];exact bx_new _ _ _ _ _ _
 have Hw1:Hid (_=_):=hw1
 clear hw1
 obtain⟨x0,x1,x2,x3,x4⟩:=hB.cells
 have h1:=h.keep (hal.mono hn)
 have hN1:=hN.keep (hal.mono hn)
 have hK1:=hK.all (hal.mono hn)
 have e1:=bs_nil t.name
 have e2:=len_nil t.names
 have e3:=len_nilS t.kids
 obtain⟨r,hr⟩:∃ r,faceB (okF f) t=r:=⟨_,rfl⟩
 rw [hr]
 clear h hN hK
 by_cases hk:t.kind=12
 ·have HR:Hid ((namelessB t && (t.kids.all (okF f 4)))=r):=by rw [← hr];unfold faceB;rw [decide_eq_true hk];rfl
  have k1:(t.kind == 12)=true:=by rw [hk];rfl
  clear hk hr
  cases hq0:namelessB t
  ·rw [hq0] at HR
   go_enter Tryz.func92,Tryz.ntmps92
   go_wp2_with fail
   rw [← Hw1.out]
   clear Hw1
   have cc:=sNameless_any n w1 t _ h1
   rw [hq0] at cc
   refine cc.mono ?_
   rintro e w2 ⟨rfl,hb2⟩
   clear cc
   have hB2:=hB.blw hb2
   obtain⟨y0,y1,y2,y3,y4⟩:=hB2.cells
   have h2:=h1.keep (hb2.mono hn1)
   have hN2:=hN1.keep (hb2.mono hn1)
   have hK2:=hK1.all (hb2.mono hn1)
   have hal2:=chain hal hb2
   have hn2:=Nat.le_trans hn1 hb2.size
   go_wp2_with fail
   go_ret
   exact⟨ret_bool (by have:=HR.out;simpa using this),hal2⟩
  ·rw [hq0] at HR
   generalize hz:t.kids.all (okF f 4)=z at *
   go_enter Tryz.func92,Tryz.ntmps92
   go_wp2_with fail
   rw [← Hw1.out]
   clear Hw1
   have cc:=sNameless_any n w1 t _ h1
   rw [hq0] at cc
   refine cc.mono ?_
   rintro e w2 ⟨rfl,hb2⟩
   clear cc
   have hB2:=hB.blw hb2
   obtain⟨y0,y1,y2,y3,y4⟩:=hB2.cells
   have h2:=h1.keep (hb2.mono hn1)
   have hN2:=hN1.keep (hb2.mono hn1)
   have hK2:=hK1.all (hb2.mono hn1)
   have hal2:=chain hal hb2
   have hn2:=Nat.le_trans hn1 hb2.size
   go_wp2_with fail
   have cc:=all_any f hR 4 (by omega) n d t.kids ka kc w2 hd hK2 hn2 hkl hks
   rw [hz] at cc
   unfold fv at cc;rw [fid4] at cc
   refine cc.mono ?_
   rintro e w3 ⟨rfl,hb3⟩
   clear cc
   have hB3:=hB2.blw hb3
   obtain⟨y0,y1,y2,y3,y4⟩:=hB3.cells
   have h3:=h2.keep (hb3.mono hn2)
   have hN3:=hN2.keep (hb3.mono hn2)
   have hK3:=hK2.all (hb3.mono hn2)
   have hal3:=chain hal2 hb3
   have hn3:=Nat.le_trans hn2 hb3.size
   go_wp2_with fail
   go_ret
   exact⟨ret_bool (by have:=HR.out;simpa using this),hal3⟩
 ·have HR:Hid (false=r):=by rw [← hr];unfold faceB;rw [decide_eq_false hk];rfl
  have k1:(t.kind == 12)=false:=by simp [hk]
  clear hk hr
  go_enter Tryz.func92,Tryz.ntmps92
  go_wp2_with fail
  rw [← Hw1.out]
  clear Hw1
  go_ret
  exact⟨ret_bool (by have:=HR.out;simpa using this),hal⟩
set_option maxRecDepth 100000 in
set_option maxHeartbeats 4000000 in
theorem elem_rule (f:Nat) (hR:RuleS f) (n d:Nat) (t:Sx) (v:Value) (w:World) (hd:d+1+f=65537) (h:SxIn n w t v) (hn:n≤w.heap.size) (hb:blk t≤1000000) :
  Calls Tryz.prog 72 #[v,.int .i64 (d:Nat)] w fun e w'=>e=.returned (.bool (elemB (okF f) t))∧Below w.heap.size w w':=by
 obtain⟨ka,kc,na,nc,rfl,hN,hK⟩:=h.form
 have hkl:t.kids.length≤1000000:=by have:=blk_klen t;omega
 have hnl:t.names.length≤1000000:=by have:=blk_nlen t;omega
 have hks:=kids_small hb
 obtain⟨w1,hw1⟩:∃ w1,w1=w.alloc (.cells #[.int .i64 t.kind,.string (bs t.name),.slice ka t.kids.length kc,.slice na t.names.length nc,.int .i64 t.at_] 26):=⟨_,rfl⟩
 have hal:Below w.heap.size w w1:=by rw [hw1];exact below_alloc _ _
 have hn1:=Nat.le_trans hn hal.size
 have hB:Bx w1 w.heap.size (.int .i64 t.kind) (.string (bs t.name)) (.slice ka t.kids.length kc) (.slice na t.names.length nc) (.int .i64 t.at_):=by rw [hw1];exact bx_new _ _ _ _ _ _
 have Hw1:Hid (_=_):=hw1
 clear hw1
 obtain⟨x0,x1,x2,x3,x4⟩:=hB.cells
 have h1:=h.keep (hal.mono hn)
 have hN1:=hN.keep (hal.mono hn)
 have hK1:=hK.all (hal.mono hn)
 have e1:=bs_nil t.name
 have e2:=len_nil t.names
 have e3:=len_nilS t.kids
 obtain⟨r,hr⟩:∃ r,elemB (okF f) t=r:=⟨_,rfl⟩
 rw [hr]
 clear h hN hK
 by_cases hk:t.kind=11
 ·have HR:Hid ((namelessB t && (areB (okF f) t.kids [3] || areB (okF f) t.kids [3,0]))=r):=by rw [← hr];unfold elemB;rw [decide_eq_true hk];rfl
  have k1:(t.kind == 11)=true:=by rw [hk];rfl
  clear hk hr
  cases hq0:namelessB t
  ·rw [hq0] at HR
   go_enter Tryz.func72,Tryz.ntmps72
   go_wp2_with fail
   rw [← Hw1.out]
   clear Hw1
   have cc:=sNameless_any n w1 t _ h1
   rw [hq0] at cc
   refine cc.mono ?_
   rintro e w2 ⟨rfl,hb2⟩
   clear cc
   have hB2:=hB.blw hb2
   obtain⟨y0,y1,y2,y3,y4⟩:=hB2.cells
   have h2:=h1.keep (hb2.mono hn1)
   have hN2:=hN1.keep (hb2.mono hn1)
   have hK2:=hK1.all (hb2.mono hn1)
   have hal2:=chain hal hb2
   have hn2:=Nat.le_trans hn1 hb2.size
   go_wp2_with fail
   go_ret
   exact⟨ret_bool (by have:=HR.out;simpa using this),hal2⟩
  ·rw [hq0] at HR
   cases hq1:areB (okF f) t.kids [3]
   ·rw [hq1] at HR
    generalize hz:areB (okF f) t.kids [3,0]=z at *
    go_enter Tryz.func72,Tryz.ntmps72
    go_wp2_with fail
    rw [← Hw1.out]
    clear Hw1
    have cc:=sNameless_any n w1 t _ h1
    rw [hq0] at cc
    refine cc.mono ?_
    rintro e w2 ⟨rfl,hb2⟩
    clear cc
    have hB2:=hB.blw hb2
    obtain⟨y0,y1,y2,y3,y4⟩:=hB2.cells
    have h2:=h1.keep (hb2.mono hn1)
    have hN2:=hN1.keep (hb2.mono hn1)
    have hK2:=hK1.all (hb2.mono hn1)
    have hal2:=chain hal hb2
    have hn2:=Nat.le_trans hn1 hb2.size
    go_wp2_with fail
    have cc:=are1_any f hR 3 92 rfl (by omega) n d t.kids ka kc w2 hd hK2 hn2 hkl hks
    rw [hq1] at cc
    refine cc.mono ?_
    rintro e w3 ⟨rfl,hb3⟩
    clear cc
    have hB3:=hB2.blw hb3
    obtain⟨y0,y1,y2,y3,y4⟩:=hB3.cells
    have h3:=h2.keep (hb3.mono hn2)
    have hN3:=hN2.keep (hb3.mono hn2)
    have hK3:=hK2.all (hb3.mono hn2)
    have hal3:=chain hal2 hb3
    have hn3:=Nat.le_trans hn2 hb3.size
    go_wp2_with fail
    have cc:=are2_any f hR 3 0 92 43 rfl rfl (by omega) (by omega) n d t.kids ka kc w3 hd hK3 hn3 hkl hks
    rw [hz] at cc
    refine cc.mono ?_
    rintro e w4 ⟨rfl,hb4⟩
    clear cc
    have hB4:=hB3.blw hb4
    obtain⟨y0,y1,y2,y3,y4⟩:=hB4.cells
    have h4:=h3.keep (hb4.mono hn3)
    have hN4:=hN3.keep (hb4.mono hn3)
    have hK4:=hK3.all (hb4.mono hn3)
    have hal4:=chain hal3 hb4
    have hn4:=Nat.le_trans hn3 hb4.size
    go_wp2_with fail
    go_ret
    exact⟨ret_bool (by have:=HR.out;simpa using this),hal4⟩
   ·rw [hq1] at HR
    go_enter Tryz.func72,Tryz.ntmps72
    go_wp2_with fail
    rw [← Hw1.out]
    clear Hw1
    have cc:=sNameless_any n w1 t _ h1
    rw [hq0] at cc
    refine cc.mono ?_
    rintro e w2 ⟨rfl,hb2⟩
    clear cc
    have hB2:=hB.blw hb2
    obtain⟨y0,y1,y2,y3,y4⟩:=hB2.cells
    have h2:=h1.keep (hb2.mono hn1)
    have hN2:=hN1.keep (hb2.mono hn1)
    have hK2:=hK1.all (hb2.mono hn1)
    have hal2:=chain hal hb2
    have hn2:=Nat.le_trans hn1 hb2.size
    go_wp2_with fail
    have cc:=are1_any f hR 3 92 rfl (by omega) n d t.kids ka kc w2 hd hK2 hn2 hkl hks
    rw [hq1] at cc
    refine cc.mono ?_
    rintro e w3 ⟨rfl,hb3⟩
    clear cc
    have hB3:=hB2.blw hb3
    obtain⟨y0,y1,y2,y3,y4⟩:=hB3.cells
    have h3:=h2.keep (hb3.mono hn2)
    have hN3:=hN2.keep (hb3.mono hn2)
    have hK3:=hK2.all (hb3.mono hn2)
    have hal3:=chain hal2 hb3
    have hn3:=Nat.le_trans hn2 hb3.size
    go_wp2_with fail
    go_ret
    exact⟨ret_bool (by have:=HR.out;simpa using this),hal3⟩
 ·have HR:Hid (false=r):=by rw [← hr];unfold elemB;rw [decide_eq_false hk];rfl
  have k1:(t.kind == 11)=false:=by simp [hk]
  clear hk hr
  go_enter Tryz.func72,Tryz.ntmps72
  go_wp2_with fail
  rw [← Hw1.out]
  clear Hw1
  go_ret
  exact⟨ret_bool (by have:=HR.out;simpa using this),hal⟩
set_option maxRecDepth 100000 in
set_option maxHeartbeats 4000000 in
theorem dim_rule (f:Nat) (hR:RuleS f) (n d:Nat) (t:Sx) (v:Value) (w:World) (hd:d+1+f=65537) (h:SxIn n w t v) (hn:n≤w.heap.size) (hb:blk t≤1000000) :
  Calls Tryz.prog 70 #[v,.int .i64 (d:Nat)] w fun e w'=>e=.returned (.bool (dimB (okF f) t))∧Below w.heap.size w w':=by
 obtain⟨ka,kc,na,nc,rfl,hN,hK⟩:=h.form
 have hkl:t.kids.length≤1000000:=by have:=blk_klen t;omega
 have hnl:t.names.length≤1000000:=by have:=blk_nlen t;omega
 have hks:=kids_small hb
 obtain⟨w1,hw1⟩:∃ w1,w1=w.alloc (.cells #[.int .i64 t.kind,.string (bs t.name),.slice ka t.kids.length kc,.slice na t.names.length nc,.int .i64 t.at_] 26):=⟨_,rfl⟩
 have hal:Below w.heap.size w w1:=by rw [hw1];exact below_alloc _ _
 have hn1:=Nat.le_trans hn hal.size
 have hB:Bx w1 w.heap.size (.int .i64 t.kind) (.string (bs t.name)) (.slice ka t.kids.length kc) (.slice na t.names.length nc) (.int .i64 t.at_):=by rw [hw1];exact bx_new _ _ _ _ _ _
 have Hw1:Hid (_=_):=hw1
 clear hw1
 obtain⟨x0,x1,x2,x3,x4⟩:=hB.cells
 have h1:=h.keep (hal.mono hn)
 have hN1:=hN.keep (hal.mono hn)
 have hK1:=hK.all (hal.mono hn)
 have e1:=bs_nil t.name
 have e2:=len_nil t.names
 have e3:=len_nilS t.kids
 obtain⟨r,hr⟩:∃ r,dimB (okF f) t=r:=⟨_,rfl⟩
 rw [hr]
 clear h hN hK
 by_cases hk1:t.kind=1
 ·have HR:Hid ((nameTreeB t)=r):=by
   rw [← hr];unfold dimB
   rw [if_pos (by omega)]
   rfl
  have k1:(t.kind == 1)=true:=by rw [hk1];rfl
  have k17:(t.kind == 17)=false:=by rw [hk1];rfl
  have k16:(t.kind == 16)=false:=by rw [hk1];rfl
  have k15:(t.kind == 15)=false:=by rw [hk1];rfl
  have k14:(t.kind == 14)=false:=by rw [hk1];rfl
  clear hk1 hr
  generalize hz:nameTreeB t=z at *
  go_enter Tryz.func70,Tryz.ntmps70
  go_wp2_with fail
  rw [← Hw1.out]
  clear Hw1
  have cc:=sNameTree_any n w1 t _ h1 hb
  rw [hz] at cc
  refine cc.mono ?_
  rintro e w2 ⟨rfl,hb2⟩
  clear cc
  have hB2:=hB.blw hb2
  obtain⟨y0,y1,y2,y3,y4⟩:=hB2.cells
  have h2:=h1.keep (hb2.mono hn1)
  have hN2:=hN1.keep (hb2.mono hn1)
  have hK2:=hK1.all (hb2.mono hn1)
  have hal2:=chain hal hb2
  have hn2:=Nat.le_trans hn1 hb2.size
  go_wp2_with fail
  go_ret
  exact⟨ret_bool (by have:=HR.out;simpa using this),hal2⟩
 by_cases hk17:t.kind=17
 ·have HR:Hid ((digB t.name && (decide (t.names=[]) && (t.kids.isEmpty)))=r):=by
   rw [← hr];unfold dimB
   rw [if_neg (by omega),if_pos (by omega)]
   have:decide (t.kids=[])=t.kids.isEmpty:=by cases t.kids <;> rfl
   rw [this]
   rfl
  have k1:(t.kind == 1)=false:=by rw [hk17];rfl
  have k17:(t.kind == 17)=true:=by rw [hk17];rfl
  have k16:(t.kind == 16)=false:=by rw [hk17];rfl
  have k15:(t.kind == 15)=false:=by rw [hk17];rfl
  have k14:(t.kind == 14)=false:=by rw [hk17];rfl
  clear hk17 hr
  cases hq0:digB t.name
  ·rw [hq0] at HR
   go_enter Tryz.func70,Tryz.ntmps70
   go_wp2_with fail
   rw [← Hw1.out]
   clear Hw1
   have cc:=sDigit_any t.name w1
   rw [hq0] at cc
   refine cc.mono ?_
   rintro e w' ⟨rfl,hw⟩
   rw [hw]
   clear cc hw
   go_wp2_with fail
   go_ret
   exact⟨ret_bool (by have:=HR.out;simpa using this),hal⟩
  ·rw [hq0] at HR
   cases hq1:decide (t.names=[])
   ·rw [hq1] at HR
    rw [hq1] at e2
    clear hq1
    go_enter Tryz.func70,Tryz.ntmps70
    go_wp2_with fail
    rw [← Hw1.out]
    clear Hw1
    have cc:=sDigit_any t.name w1
    rw [hq0] at cc
    refine cc.mono ?_
    rintro e w' ⟨rfl,hw⟩
    rw [hw]
    clear cc hw
    go_wp2_with fail
    go_ret
    exact⟨ret_bool (by have:=HR.out;simpa using this),hal⟩
   ·rw [hq1] at HR
    rw [hq1] at e2
    clear hq1
    cases hq2:t.kids.isEmpty
    ·rw [hq2] at HR
     rw [hq2] at e3
     clear hq2
     go_enter Tryz.func70,Tryz.ntmps70
     go_wp2_with fail
     rw [← Hw1.out]
     clear Hw1
     have cc:=sDigit_any t.name w1
     rw [hq0] at cc
     refine cc.mono ?_
     rintro e w' ⟨rfl,hw⟩
     rw [hw]
     clear cc hw
     go_wp2_with fail
     go_ret
     exact⟨ret_bool (by have:=HR.out;simpa using this),hal⟩
    ·rw [hq2] at HR
     rw [hq2] at e3
     clear hq2
     go_enter Tryz.func70,Tryz.ntmps70
     go_wp2_with fail
     rw [← Hw1.out]
     clear Hw1
     have cc:=sDigit_any t.name w1
     rw [hq0] at cc
     refine cc.mono ?_
     rintro e w' ⟨rfl,hw⟩
     rw [hw]
     clear cc hw
     go_wp2_with fail
     go_ret
     exact⟨ret_bool (by have:=HR.out;simpa using this),hal⟩
 by_cases hk16:t.kind=16
 ·have HR:Hid ((namelessB t && (areB (okF f) t.kids [1]))=r):=by
   rw [← hr];unfold dimB
   rw [if_neg (by omega),if_neg (by omega),if_pos (by omega)]
   rfl
  have k1:(t.kind == 1)=false:=by rw [hk16];rfl
  have k17:(t.kind == 17)=false:=by rw [hk16];rfl
  have k16:(t.kind == 16)=true:=by rw [hk16];rfl
  have k15:(t.kind == 15)=false:=by rw [hk16];rfl
  have k14:(t.kind == 14)=false:=by rw [hk16];rfl
  clear hk16 hr
  cases hq0:namelessB t
  ·rw [hq0] at HR
   go_enter Tryz.func70,Tryz.ntmps70
   go_wp2_with fail
   rw [← Hw1.out]
   clear Hw1
   have cc:=sNameless_any n w1 t _ h1
   rw [hq0] at cc
   refine cc.mono ?_
   rintro e w2 ⟨rfl,hb2⟩
   clear cc
   have hB2:=hB.blw hb2
   obtain⟨y0,y1,y2,y3,y4⟩:=hB2.cells
   have h2:=h1.keep (hb2.mono hn1)
   have hN2:=hN1.keep (hb2.mono hn1)
   have hK2:=hK1.all (hb2.mono hn1)
   have hal2:=chain hal hb2
   have hn2:=Nat.le_trans hn1 hb2.size
   go_wp2_with fail
   go_ret
   exact⟨ret_bool (by have:=HR.out;simpa using this),hal2⟩
  ·rw [hq0] at HR
   generalize hz:areB (okF f) t.kids [1]=z at *
   go_enter Tryz.func70,Tryz.ntmps70
   go_wp2_with fail
   rw [← Hw1.out]
   clear Hw1
   have cc:=sNameless_any n w1 t _ h1
   rw [hq0] at cc
   refine cc.mono ?_
   rintro e w2 ⟨rfl,hb2⟩
   clear cc
   have hB2:=hB.blw hb2
   obtain⟨y0,y1,y2,y3,y4⟩:=hB2.cells
   have h2:=h1.keep (hb2.mono hn1)
   have hN2:=hN1.keep (hb2.mono hn1)
   have hK2:=hK1.all (hb2.mono hn1)
   have hal2:=chain hal hb2
   have hn2:=Nat.le_trans hn1 hb2.size
   go_wp2_with fail
   have cc:=are1_any f hR 1 70 rfl (by omega) n d t.kids ka kc w2 hd hK2 hn2 hkl hks
   rw [hz] at cc
   refine cc.mono ?_
   rintro e w3 ⟨rfl,hb3⟩
   clear cc
   have hB3:=hB2.blw hb3
   obtain⟨y0,y1,y2,y3,y4⟩:=hB3.cells
   have h3:=h2.keep (hb3.mono hn2)
   have hN3:=hN2.keep (hb3.mono hn2)
   have hK3:=hK2.all (hb3.mono hn2)
   have hal3:=chain hal2 hb3
   have hn3:=Nat.le_trans hn2 hb3.size
   go_wp2_with fail
   go_ret
   exact⟨ret_bool (by have:=HR.out;simpa using this),hal3⟩
 by_cases hk15:t.kind=15
 ·have HR:Hid ((namelessB t && (areB (okF f) t.kids [1,1]))=r):=by
   rw [← hr];unfold dimB
   rw [if_neg (by omega),if_neg (by omega),if_neg (by omega),if_pos (by omega)]
   rfl
  have k1:(t.kind == 1)=false:=by rw [hk15];rfl
  have k17:(t.kind == 17)=false:=by rw [hk15];rfl
  have k16:(t.kind == 16)=false:=by rw [hk15];rfl
  have k15:(t.kind == 15)=true:=by rw [hk15];rfl
  have k14:(t.kind == 14)=false:=by rw [hk15];rfl
  clear hk15 hr
  cases hq0:namelessB t
  ·rw [hq0] at HR
   go_enter Tryz.func70,Tryz.ntmps70
   go_wp2_with fail
   rw [← Hw1.out]
   clear Hw1
   have cc:=sNameless_any n w1 t _ h1
   rw [hq0] at cc
   refine cc.mono ?_
   rintro e w2 ⟨rfl,hb2⟩
   clear cc
   have hB2:=hB.blw hb2
   obtain⟨y0,y1,y2,y3,y4⟩:=hB2.cells
   have h2:=h1.keep (hb2.mono hn1)
   have hN2:=hN1.keep (hb2.mono hn1)
   have hK2:=hK1.all (hb2.mono hn1)
   have hal2:=chain hal hb2
   have hn2:=Nat.le_trans hn1 hb2.size
   go_wp2_with fail
   go_ret
   exact⟨ret_bool (by have:=HR.out;simpa using this),hal2⟩
  ·rw [hq0] at HR
   generalize hz:areB (okF f) t.kids [1,1]=z at *
   go_enter Tryz.func70,Tryz.ntmps70
   go_wp2_with fail
   rw [← Hw1.out]
   clear Hw1
   have cc:=sNameless_any n w1 t _ h1
   rw [hq0] at cc
   refine cc.mono ?_
   rintro e w2 ⟨rfl,hb2⟩
   clear cc
   have hB2:=hB.blw hb2
   obtain⟨y0,y1,y2,y3,y4⟩:=hB2.cells
   have h2:=h1.keep (hb2.mono hn1)
   have hN2:=hN1.keep (hb2.mono hn1)
   have hK2:=hK1.all (hb2.mono hn1)
   have hal2:=chain hal hb2
   have hn2:=Nat.le_trans hn1 hb2.size
   go_wp2_with fail
   have cc:=are2_any f hR 1 1 70 70 rfl rfl (by omega) (by omega) n d t.kids ka kc w2 hd hK2 hn2 hkl hks
   rw [hz] at cc
   refine cc.mono ?_
   rintro e w3 ⟨rfl,hb3⟩
   clear cc
   have hB3:=hB2.blw hb3
   obtain⟨y0,y1,y2,y3,y4⟩:=hB3.cells
   have h3:=h2.keep (hb3.mono hn2)
   have hN3:=hN2.keep (hb3.mono hn2)
   have hK3:=hK2.all (hb3.mono hn2)
   have hal3:=chain hal2 hb3
   have hn3:=Nat.le_trans hn2 hb3.size
   go_wp2_with fail
   go_ret
   exact⟨ret_bool (by have:=HR.out;simpa using this),hal3⟩
 by_cases hk14:t.kind=14
 ·have HR:Hid ((namelessB t && (areB (okF f) t.kids [1,1]))=r):=by
   rw [← hr];unfold dimB
   rw [if_neg (by omega),if_neg (by omega),if_neg (by omega),if_pos (by omega)]
   rfl
  have k1:(t.kind == 1)=false:=by rw [hk14];rfl
  have k17:(t.kind == 17)=false:=by rw [hk14];rfl
  have k16:(t.kind == 16)=false:=by rw [hk14];rfl
  have k15:(t.kind == 15)=false:=by rw [hk14];rfl
  have k14:(t.kind == 14)=true:=by rw [hk14];rfl
  clear hk14 hr
  cases hq0:namelessB t
  ·rw [hq0] at HR
   go_enter Tryz.func70,Tryz.ntmps70
   go_wp2_with fail
   rw [← Hw1.out]
   clear Hw1
   have cc:=sNameless_any n w1 t _ h1
   rw [hq0] at cc
   refine cc.mono ?_
   rintro e w2 ⟨rfl,hb2⟩
   clear cc
   have hB2:=hB.blw hb2
   obtain⟨y0,y1,y2,y3,y4⟩:=hB2.cells
   have h2:=h1.keep (hb2.mono hn1)
   have hN2:=hN1.keep (hb2.mono hn1)
   have hK2:=hK1.all (hb2.mono hn1)
   have hal2:=chain hal hb2
   have hn2:=Nat.le_trans hn1 hb2.size
   go_wp2_with fail
   go_ret
   exact⟨ret_bool (by have:=HR.out;simpa using this),hal2⟩
  ·rw [hq0] at HR
   generalize hz:areB (okF f) t.kids [1,1]=z at *
   go_enter Tryz.func70,Tryz.ntmps70
   go_wp2_with fail
   rw [← Hw1.out]
   clear Hw1
   have cc:=sNameless_any n w1 t _ h1
   rw [hq0] at cc
   refine cc.mono ?_
   rintro e w2 ⟨rfl,hb2⟩
   clear cc
   have hB2:=hB.blw hb2
   obtain⟨y0,y1,y2,y3,y4⟩:=hB2.cells
   have h2:=h1.keep (hb2.mono hn1)
   have hN2:=hN1.keep (hb2.mono hn1)
   have hK2:=hK1.all (hb2.mono hn1)
   have hal2:=chain hal hb2
   have hn2:=Nat.le_trans hn1 hb2.size
   go_wp2_with fail
   have cc:=are2_any f hR 1 1 70 70 rfl rfl (by omega) (by omega) n d t.kids ka kc w2 hd hK2 hn2 hkl hks
   rw [hz] at cc
   refine cc.mono ?_
   rintro e w3 ⟨rfl,hb3⟩
   clear cc
   have hB3:=hB2.blw hb3
   obtain⟨y0,y1,y2,y3,y4⟩:=hB3.cells
   have h3:=h2.keep (hb3.mono hn2)
   have hN3:=hN2.keep (hb3.mono hn2)
   have hK3:=hK2.all (hb3.mono hn2)
   have hal3:=chain hal2 hb3
   have hn3:=Nat.le_trans hn2 hb3.size
   go_wp2_with fail
   go_ret
   exact⟨ret_bool (by have:=HR.out;simpa using this),hal3⟩
 have HR:Hid (false=r):=by
  rw [← hr];unfold dimB
  rw [if_neg (by omega),if_neg (by omega),if_neg (by omega),if_neg (by omega)]
  rfl
 have k1:(t.kind == 1)=false:=by simp;omega
 have k17:(t.kind == 17)=false:=by simp;omega
 have k16:(t.kind == 16)=false:=by simp;omega
 have k15:(t.kind == 15)=false:=by simp;omega
 have k14:(t.kind == 14)=false:=by simp;omega
 clear hr
 go_enter Tryz.func70,Tryz.ntmps70
 go_wp2_with fail
 rw [← Hw1.out]
 clear Hw1
 go_ret
 exact⟨ret_bool (by have:=HR.out;simpa using this),hal⟩
set_option maxRecDepth 100000 in
set_option maxHeartbeats 4000000 in
theorem term_rule (f:Nat) (hR:RuleS f) (n d:Nat) (t:Sx) (v:Value) (w:World) (hd:d+1+f=65537) (h:SxIn n w t v) (hn:n≤w.heap.size) (hb:blk t≤1000000) :
  Calls Tryz.prog 43 #[v,.int .i64 (d:Nat)] w fun e w'=>e=.returned (.bool (termB (okF f) t))∧Below w.heap.size w w':=by
 obtain⟨ka,kc,na,nc,rfl,hN,hK⟩:=h.form
 have hkl:t.kids.length≤1000000:=by have:=blk_klen t;omega
 have hnl:t.names.length≤1000000:=by have:=blk_nlen t;omega
 have hks:=kids_small hb
 obtain⟨w1,hw1⟩:∃ w1,w1=w.alloc (.cells #[.int .i64 t.kind,.string (bs t.name),.slice ka t.kids.length kc,.slice na t.names.length nc,.int .i64 t.at_] 26):=⟨_,rfl⟩
 have hal:Below w.heap.size w w1:=by rw [hw1];exact below_alloc _ _
 have hn1:=Nat.le_trans hn hal.size
 have hB:Bx w1 w.heap.size (.int .i64 t.kind) (.string (bs t.name)) (.slice ka t.kids.length kc) (.slice na t.names.length nc) (.int .i64 t.at_):=by rw [hw1];exact bx_new _ _ _ _ _ _
 have Hw1:Hid (_=_):=hw1
 clear hw1
 obtain⟨x0,x1,x2,x3,x4⟩:=hB.cells
 have h1:=h.keep (hal.mono hn)
 have hN1:=hN.keep (hal.mono hn)
 have hK1:=hK.all (hal.mono hn)
 have e1:=bs_nil t.name
 have e2:=len_nil t.names
 have e3:=len_nilS t.kids
 obtain⟨r,hr⟩:∃ r,termB (okF f) t=r:=⟨_,rfl⟩
 rw [hr]
 clear h hN hK
 by_cases hk1:t.kind=1
 ·have HR:Hid ((nameTreeB t)=r):=by
   rw [← hr];unfold termB
   rw [if_pos (by omega)]
   rfl
  have k1:(t.kind == 1)=true:=by rw [hk1];rfl
  have k2:(t.kind == 2)=false:=by rw [hk1];rfl
  have k3:(t.kind == 3)=false:=by rw [hk1];rfl
  have k4:(t.kind == 4)=false:=by rw [hk1];rfl
  have k5:(t.kind == 5)=false:=by rw [hk1];rfl
  have k6:(t.kind == 6)=false:=by rw [hk1];rfl
  have k8:(t.kind == 8)=false:=by rw [hk1];rfl
  have k9:(t.kind == 9)=false:=by rw [hk1];rfl
  have k7:(t.kind == 7)=false:=by rw [hk1];rfl
  have k10:(t.kind == 10)=false:=by rw [hk1];rfl
  clear hk1 hr
  generalize hz:nameTreeB t=z at *
  go_enter Tryz.func43,Tryz.ntmps43
  go_wp2_with fail
  rw [← Hw1.out]
  clear Hw1
  have cc:=sNameTree_any n w1 t _ h1 hb
  rw [hz] at cc
  refine cc.mono ?_
  rintro e w2 ⟨rfl,hb2⟩
  clear cc
  have hB2:=hB.blw hb2
  obtain⟨y0,y1,y2,y3,y4⟩:=hB2.cells
  have h2:=h1.keep (hb2.mono hn1)
  have hN2:=hN1.keep (hb2.mono hn1)
  have hK2:=hK1.all (hb2.mono hn1)
  have hal2:=chain hal hb2
  have hn2:=Nat.le_trans hn1 hb2.size
  go_wp2_with fail
  go_ret
  exact⟨ret_bool (by have:=HR.out;simpa using this),hal2⟩
 by_cases hk2:t.kind=2
 ·have HR:Hid ((decide (t.name=[]) && (decide (t.names≠[]) && (t.names.all nameB && (areB (okF f) t.kids [0]))))=r):=by
   rw [← hr];unfold termB
   rw [if_neg (by omega),if_pos (by omega)]
   rfl
  have k1:(t.kind == 1)=false:=by rw [hk2];rfl
  have k2:(t.kind == 2)=true:=by rw [hk2];rfl
  have k3:(t.kind == 3)=false:=by rw [hk2];rfl
  have k4:(t.kind == 4)=false:=by rw [hk2];rfl
  have k5:(t.kind == 5)=false:=by rw [hk2];rfl
  have k6:(t.kind == 6)=false:=by rw [hk2];rfl
  have k8:(t.kind == 8)=false:=by rw [hk2];rfl
  have k9:(t.kind == 9)=false:=by rw [hk2];rfl
  have k7:(t.kind == 7)=false:=by rw [hk2];rfl
  have k10:(t.kind == 10)=false:=by rw [hk2];rfl
  clear hk2 hr
  cases hq0:decide (t.name=[])
  ·rw [hq0] at HR
   rw [hq0] at e1
   clear hq0
   go_enter Tryz.func43,Tryz.ntmps43
   go_wp2_with fail
   rw [← Hw1.out]
   clear Hw1
   go_ret
   exact⟨ret_bool (by have:=HR.out;simpa using this),hal⟩
  ·rw [hq0] at HR
   rw [hq0] at e1
   clear hq0
   cases hq1:decide (t.names≠[])
   ·rw [hq1] at HR
    have hp:¬ (0:Int) < (t.names.length:Int):=by have:¬ t.names≠[]:=of_decide_eq_false hq1;have:t.names=[]:=Classical.byContradiction this;rw [this];simp
    clear hq1
    go_enter Tryz.func43,Tryz.ntmps43
    go_wp2_with fail
    rw [← Hw1.out]
    clear Hw1
    go_ret
    exact⟨ret_bool (by have:=HR.out;simpa using this),hal⟩
   ·rw [hq1] at HR
    have hp:(0:Int) < (t.names.length:Int):=by have:t.names≠[]:=of_decide_eq_true hq1;have:=List.length_pos_iff.2 this;omega
    clear hq1
    cases hq2:t.names.all nameB
    ·rw [hq2] at HR
     go_enter Tryz.func43,Tryz.ntmps43
     go_wp2_with fail
     rw [← Hw1.out]
     clear Hw1
     have cc:=areNames_any n w1 t.names _ hN1 hn1 hnl (fun x hx=>by have:=blk_names hx;omega)
     rw [hq2] at cc
     refine cc.mono ?_
     rintro e w2 ⟨rfl,hb2⟩
     clear cc
     have hB2:=hB.blw hb2
     obtain⟨y0,y1,y2,y3,y4⟩:=hB2.cells
     have h2:=h1.keep (hb2.mono hn1)
     have hN2:=hN1.keep (hb2.mono hn1)
     have hK2:=hK1.all (hb2.mono hn1)
     have hal2:=chain hal hb2
     have hn2:=Nat.le_trans hn1 hb2.size
     go_wp2_with fail
     go_ret
     exact⟨ret_bool (by have:=HR.out;simpa using this),hal2⟩
    ·rw [hq2] at HR
     generalize hz:areB (okF f) t.kids [0]=z at *
     go_enter Tryz.func43,Tryz.ntmps43
     go_wp2_with fail
     rw [← Hw1.out]
     clear Hw1
     have cc:=areNames_any n w1 t.names _ hN1 hn1 hnl (fun x hx=>by have:=blk_names hx;omega)
     rw [hq2] at cc
     refine cc.mono ?_
     rintro e w2 ⟨rfl,hb2⟩
     clear cc
     have hB2:=hB.blw hb2
     obtain⟨y0,y1,y2,y3,y4⟩:=hB2.cells
     have h2:=h1.keep (hb2.mono hn1)
     have hN2:=hN1.keep (hb2.mono hn1)
     have hK2:=hK1.all (hb2.mono hn1)
     have hal2:=chain hal hb2
     have hn2:=Nat.le_trans hn1 hb2.size
     go_wp2_with fail
     have cc:=are1_any f hR 0 43 rfl (by omega) n d t.kids ka kc w2 hd hK2 hn2 hkl hks
     rw [hz] at cc
     refine cc.mono ?_
     rintro e w3 ⟨rfl,hb3⟩
     clear cc
     have hB3:=hB2.blw hb3
     obtain⟨y0,y1,y2,y3,y4⟩:=hB3.cells
     have h3:=h2.keep (hb3.mono hn2)
     have hN3:=hN2.keep (hb3.mono hn2)
     have hK3:=hK2.all (hb3.mono hn2)
     have hal3:=chain hal2 hb3
     have hn3:=Nat.le_trans hn2 hb3.size
     go_wp2_with fail
     go_ret
     exact⟨ret_bool (by have:=HR.out;simpa using this),hal3⟩
 by_cases hk3:t.kind=3
 ·have HR:Hid ((decide (t.name=[]) && (decide (t.names≠[]) && (t.names.all nameB && (areB (okF f) t.kids [0]))))=r):=by
   rw [← hr];unfold termB
   rw [if_neg (by omega),if_pos (by omega)]
   rfl
  have k1:(t.kind == 1)=false:=by rw [hk3];rfl
  have k2:(t.kind == 2)=false:=by rw [hk3];rfl
  have k3:(t.kind == 3)=true:=by rw [hk3];rfl
  have k4:(t.kind == 4)=false:=by rw [hk3];rfl
  have k5:(t.kind == 5)=false:=by rw [hk3];rfl
  have k6:(t.kind == 6)=false:=by rw [hk3];rfl
  have k8:(t.kind == 8)=false:=by rw [hk3];rfl
  have k9:(t.kind == 9)=false:=by rw [hk3];rfl
  have k7:(t.kind == 7)=false:=by rw [hk3];rfl
  have k10:(t.kind == 10)=false:=by rw [hk3];rfl
  clear hk3 hr
  cases hq0:decide (t.name=[])
  ·rw [hq0] at HR
   rw [hq0] at e1
   clear hq0
   go_enter Tryz.func43,Tryz.ntmps43
   go_wp2_with fail
   rw [← Hw1.out]
   clear Hw1
   go_ret
   exact⟨ret_bool (by have:=HR.out;simpa using this),hal⟩
  ·rw [hq0] at HR
   rw [hq0] at e1
   clear hq0
   cases hq1:decide (t.names≠[])
   ·rw [hq1] at HR
    have hp:¬ (0:Int) < (t.names.length:Int):=by have:¬ t.names≠[]:=of_decide_eq_false hq1;have:t.names=[]:=Classical.byContradiction this;rw [this];simp
    clear hq1
    go_enter Tryz.func43,Tryz.ntmps43
    go_wp2_with fail
    rw [← Hw1.out]
    clear Hw1
    go_ret
    exact⟨ret_bool (by have:=HR.out;simpa using this),hal⟩
   ·rw [hq1] at HR
    have hp:(0:Int) < (t.names.length:Int):=by have:t.names≠[]:=of_decide_eq_true hq1;have:=List.length_pos_iff.2 this;omega
    clear hq1
    cases hq2:t.names.all nameB
    ·rw [hq2] at HR
     go_enter Tryz.func43,Tryz.ntmps43
     go_wp2_with fail
     rw [← Hw1.out]
     clear Hw1
     have cc:=areNames_any n w1 t.names _ hN1 hn1 hnl (fun x hx=>by have:=blk_names hx;omega)
     rw [hq2] at cc
     refine cc.mono ?_
     rintro e w2 ⟨rfl,hb2⟩
     clear cc
     have hB2:=hB.blw hb2
     obtain⟨y0,y1,y2,y3,y4⟩:=hB2.cells
     have h2:=h1.keep (hb2.mono hn1)
     have hN2:=hN1.keep (hb2.mono hn1)
     have hK2:=hK1.all (hb2.mono hn1)
     have hal2:=chain hal hb2
     have hn2:=Nat.le_trans hn1 hb2.size
     go_wp2_with fail
     go_ret
     exact⟨ret_bool (by have:=HR.out;simpa using this),hal2⟩
    ·rw [hq2] at HR
     generalize hz:areB (okF f) t.kids [0]=z at *
     go_enter Tryz.func43,Tryz.ntmps43
     go_wp2_with fail
     rw [← Hw1.out]
     clear Hw1
     have cc:=areNames_any n w1 t.names _ hN1 hn1 hnl (fun x hx=>by have:=blk_names hx;omega)
     rw [hq2] at cc
     refine cc.mono ?_
     rintro e w2 ⟨rfl,hb2⟩
     clear cc
     have hB2:=hB.blw hb2
     obtain⟨y0,y1,y2,y3,y4⟩:=hB2.cells
     have h2:=h1.keep (hb2.mono hn1)
     have hN2:=hN1.keep (hb2.mono hn1)
     have hK2:=hK1.all (hb2.mono hn1)
     have hal2:=chain hal hb2
     have hn2:=Nat.le_trans hn1 hb2.size
     go_wp2_with fail
     have cc:=are1_any f hR 0 43 rfl (by omega) n d t.kids ka kc w2 hd hK2 hn2 hkl hks
     rw [hz] at cc
     refine cc.mono ?_
     rintro e w3 ⟨rfl,hb3⟩
     clear cc
     have hB3:=hB2.blw hb3
     obtain⟨y0,y1,y2,y3,y4⟩:=hB3.cells
     have h3:=h2.keep (hb3.mono hn2)
     have hN3:=hN2.keep (hb3.mono hn2)
     have hK3:=hK2.all (hb3.mono hn2)
     have hal3:=chain hal2 hb3
     have hn3:=Nat.le_trans hn2 hb3.size
     go_wp2_with fail
     go_ret
     exact⟨ret_bool (by have:=HR.out;simpa using this),hal3⟩
 by_cases hk4:t.kind=4
 ·have HR:Hid ((decide (t.name=[]) && (decide (t.names.length<2) && (t.names.all nameB && (areB (okF f) t.kids [0,0]))))=r):=by
   rw [← hr];unfold termB
   rw [if_neg (by omega),if_neg (by omega),if_pos (by omega)]
   rfl
  have k1:(t.kind == 1)=false:=by rw [hk4];rfl
  have k2:(t.kind == 2)=false:=by rw [hk4];rfl
  have k3:(t.kind == 3)=false:=by rw [hk4];rfl
  have k4:(t.kind == 4)=true:=by rw [hk4];rfl
  have k5:(t.kind == 5)=false:=by rw [hk4];rfl
  have k6:(t.kind == 6)=false:=by rw [hk4];rfl
  have k8:(t.kind == 8)=false:=by rw [hk4];rfl
  have k9:(t.kind == 9)=false:=by rw [hk4];rfl
  have k7:(t.kind == 7)=false:=by rw [hk4];rfl
  have k10:(t.kind == 10)=false:=by rw [hk4];rfl
  clear hk4 hr
  cases hq0:decide (t.name=[])
  ·rw [hq0] at HR
   rw [hq0] at e1
   clear hq0
   go_enter Tryz.func43,Tryz.ntmps43
   go_wp2_with fail
   rw [← Hw1.out]
   clear Hw1
   go_ret
   exact⟨ret_bool (by have:=HR.out;simpa using this),hal⟩
  ·rw [hq0] at HR
   rw [hq0] at e1
   clear hq0
   cases hq1:decide (t.names.length<2)
   ·rw [hq1] at HR
    have hp2:¬ (t.names.length:Int) < 2:=by have:=of_decide_eq_false hq1;omega
    clear hq1
    go_enter Tryz.func43,Tryz.ntmps43
    go_wp2_with fail
    rw [← Hw1.out]
    clear Hw1
    go_ret
    exact⟨ret_bool (by have:=HR.out;simpa using this),hal⟩
   ·rw [hq1] at HR
    have hp2:(t.names.length:Int) < 2:=by have:=of_decide_eq_true hq1;omega
    clear hq1
    cases hq2:t.names.all nameB
    ·rw [hq2] at HR
     go_enter Tryz.func43,Tryz.ntmps43
     go_wp2_with fail
     rw [← Hw1.out]
     clear Hw1
     have cc:=areNames_any n w1 t.names _ hN1 hn1 hnl (fun x hx=>by have:=blk_names hx;omega)
     rw [hq2] at cc
     refine cc.mono ?_
     rintro e w2 ⟨rfl,hb2⟩
     clear cc
     have hB2:=hB.blw hb2
     obtain⟨y0,y1,y2,y3,y4⟩:=hB2.cells
     have h2:=h1.keep (hb2.mono hn1)
     have hN2:=hN1.keep (hb2.mono hn1)
     have hK2:=hK1.all (hb2.mono hn1)
     have hal2:=chain hal hb2
     have hn2:=Nat.le_trans hn1 hb2.size
     go_wp2_with fail
     go_ret
     exact⟨ret_bool (by have:=HR.out;simpa using this),hal2⟩
    ·rw [hq2] at HR
     generalize hz:areB (okF f) t.kids [0,0]=z at *
     go_enter Tryz.func43,Tryz.ntmps43
     go_wp2_with fail
     rw [← Hw1.out]
     clear Hw1
     have cc:=areNames_any n w1 t.names _ hN1 hn1 hnl (fun x hx=>by have:=blk_names hx;omega)
     rw [hq2] at cc
     refine cc.mono ?_
     rintro e w2 ⟨rfl,hb2⟩
     clear cc
     have hB2:=hB.blw hb2
     obtain⟨y0,y1,y2,y3,y4⟩:=hB2.cells
     have h2:=h1.keep (hb2.mono hn1)
     have hN2:=hN1.keep (hb2.mono hn1)
     have hK2:=hK1.all (hb2.mono hn1)
     have hal2:=chain hal hb2
     have hn2:=Nat.le_trans hn1 hb2.size
     go_wp2_with fail
     have cc:=are2_any f hR 0 0 43 43 rfl rfl (by omega) (by omega) n d t.kids ka kc w2 hd hK2 hn2 hkl hks
     rw [hz] at cc
     refine cc.mono ?_
     rintro e w3 ⟨rfl,hb3⟩
     clear cc
     have hB3:=hB2.blw hb3
     obtain⟨y0,y1,y2,y3,y4⟩:=hB3.cells
     have h3:=h2.keep (hb3.mono hn2)
     have hN3:=hN2.keep (hb3.mono hn2)
     have hK3:=hK2.all (hb3.mono hn2)
     have hal3:=chain hal2 hb3
     have hn3:=Nat.le_trans hn2 hb3.size
     go_wp2_with fail
     go_ret
     exact⟨ret_bool (by have:=HR.out;simpa using this),hal3⟩
 by_cases hk5:t.kind=5
 ·have HR:Hid ((decide (t.name=[]) && (decide (t.names.length<2) && (t.names.all nameB && (areB (okF f) t.kids [0,0]))))=r):=by
   rw [← hr];unfold termB
   rw [if_neg (by omega),if_neg (by omega),if_pos (by omega)]
   rfl
  have k1:(t.kind == 1)=false:=by rw [hk5];rfl
  have k2:(t.kind == 2)=false:=by rw [hk5];rfl
  have k3:(t.kind == 3)=false:=by rw [hk5];rfl
  have k4:(t.kind == 4)=false:=by rw [hk5];rfl
  have k5:(t.kind == 5)=true:=by rw [hk5];rfl
  have k6:(t.kind == 6)=false:=by rw [hk5];rfl
  have k8:(t.kind == 8)=false:=by rw [hk5];rfl
  have k9:(t.kind == 9)=false:=by rw [hk5];rfl
  have k7:(t.kind == 7)=false:=by rw [hk5];rfl
  have k10:(t.kind == 10)=false:=by rw [hk5];rfl
  clear hk5 hr
  cases hq0:decide (t.name=[])
  ·rw [hq0] at HR
   rw [hq0] at e1
   clear hq0
   go_enter Tryz.func43,Tryz.ntmps43
   go_wp2_with fail
   rw [← Hw1.out]
   clear Hw1
   go_ret
   exact⟨ret_bool (by have:=HR.out;simpa using this),hal⟩
  ·rw [hq0] at HR
   rw [hq0] at e1
   clear hq0
   cases hq1:decide (t.names.length<2)
   ·rw [hq1] at HR
    have hp2:¬ (t.names.length:Int) < 2:=by have:=of_decide_eq_false hq1;omega
    clear hq1
    go_enter Tryz.func43,Tryz.ntmps43
    go_wp2_with fail
    rw [← Hw1.out]
    clear Hw1
    go_ret
    exact⟨ret_bool (by have:=HR.out;simpa using this),hal⟩
   ·rw [hq1] at HR
    have hp2:(t.names.length:Int) < 2:=by have:=of_decide_eq_true hq1;omega
    clear hq1
    cases hq2:t.names.all nameB
    ·rw [hq2] at HR
     go_enter Tryz.func43,Tryz.ntmps43
     go_wp2_with fail
     rw [← Hw1.out]
     clear Hw1
     have cc:=areNames_any n w1 t.names _ hN1 hn1 hnl (fun x hx=>by have:=blk_names hx;omega)
     rw [hq2] at cc
     refine cc.mono ?_
     rintro e w2 ⟨rfl,hb2⟩
     clear cc
     have hB2:=hB.blw hb2
     obtain⟨y0,y1,y2,y3,y4⟩:=hB2.cells
     have h2:=h1.keep (hb2.mono hn1)
     have hN2:=hN1.keep (hb2.mono hn1)
     have hK2:=hK1.all (hb2.mono hn1)
     have hal2:=chain hal hb2
     have hn2:=Nat.le_trans hn1 hb2.size
     go_wp2_with fail
     go_ret
     exact⟨ret_bool (by have:=HR.out;simpa using this),hal2⟩
    ·rw [hq2] at HR
     generalize hz:areB (okF f) t.kids [0,0]=z at *
     go_enter Tryz.func43,Tryz.ntmps43
     go_wp2_with fail
     rw [← Hw1.out]
     clear Hw1
     have cc:=areNames_any n w1 t.names _ hN1 hn1 hnl (fun x hx=>by have:=blk_names hx;omega)
     rw [hq2] at cc
     refine cc.mono ?_
     rintro e w2 ⟨rfl,hb2⟩
     clear cc
     have hB2:=hB.blw hb2
     obtain⟨y0,y1,y2,y3,y4⟩:=hB2.cells
     have h2:=h1.keep (hb2.mono hn1)
     have hN2:=hN1.keep (hb2.mono hn1)
     have hK2:=hK1.all (hb2.mono hn1)
     have hal2:=chain hal hb2
     have hn2:=Nat.le_trans hn1 hb2.size
     go_wp2_with fail
     have cc:=are2_any f hR 0 0 43 43 rfl rfl (by omega) (by omega) n d t.kids ka kc w2 hd hK2 hn2 hkl hks
     rw [hz] at cc
     refine cc.mono ?_
     rintro e w3 ⟨rfl,hb3⟩
     clear cc
     have hB3:=hB2.blw hb3
     obtain⟨y0,y1,y2,y3,y4⟩:=hB3.cells
     have h3:=h2.keep (hb3.mono hn2)
     have hN3:=hN2.keep (hb3.mono hn2)
     have hK3:=hK2.all (hb3.mono hn2)
     have hal3:=chain hal2 hb3
     have hn3:=Nat.le_trans hn2 hb3.size
     go_wp2_with fail
     go_ret
     exact⟨ret_bool (by have:=HR.out;simpa using this),hal3⟩
 by_cases hk6:t.kind=6
 ·have HR:Hid ((namelessB t && (areB (okF f) t.kids [0,0]))=r):=by
   rw [← hr];unfold termB
   rw [if_neg (by omega),if_neg (by omega),if_neg (by omega),if_pos (by omega)]
   rfl
  have k1:(t.kind == 1)=false:=by rw [hk6];rfl
  have k2:(t.kind == 2)=false:=by rw [hk6];rfl
  have k3:(t.kind == 3)=false:=by rw [hk6];rfl
  have k4:(t.kind == 4)=false:=by rw [hk6];rfl
  have k5:(t.kind == 5)=false:=by rw [hk6];rfl
  have k6:(t.kind == 6)=true:=by rw [hk6];rfl
  have k8:(t.kind == 8)=false:=by rw [hk6];rfl
  have k9:(t.kind == 9)=false:=by rw [hk6];rfl
  have k7:(t.kind == 7)=false:=by rw [hk6];rfl
  have k10:(t.kind == 10)=false:=by rw [hk6];rfl
  clear hk6 hr
  cases hq0:namelessB t
  ·rw [hq0] at HR
   go_enter Tryz.func43,Tryz.ntmps43
   go_wp2_with fail
   rw [← Hw1.out]
   clear Hw1
   have cc:=sNameless_any n w1 t _ h1
   rw [hq0] at cc
   refine cc.mono ?_
   rintro e w2 ⟨rfl,hb2⟩
   clear cc
   have hB2:=hB.blw hb2
   obtain⟨y0,y1,y2,y3,y4⟩:=hB2.cells
   have h2:=h1.keep (hb2.mono hn1)
   have hN2:=hN1.keep (hb2.mono hn1)
   have hK2:=hK1.all (hb2.mono hn1)
   have hal2:=chain hal hb2
   have hn2:=Nat.le_trans hn1 hb2.size
   go_wp2_with fail
   go_ret
   exact⟨ret_bool (by have:=HR.out;simpa using this),hal2⟩
  ·rw [hq0] at HR
   generalize hz:areB (okF f) t.kids [0,0]=z at *
   go_enter Tryz.func43,Tryz.ntmps43
   go_wp2_with fail
   rw [← Hw1.out]
   clear Hw1
   have cc:=sNameless_any n w1 t _ h1
   rw [hq0] at cc
   refine cc.mono ?_
   rintro e w2 ⟨rfl,hb2⟩
   clear cc
   have hB2:=hB.blw hb2
   obtain⟨y0,y1,y2,y3,y4⟩:=hB2.cells
   have h2:=h1.keep (hb2.mono hn1)
   have hN2:=hN1.keep (hb2.mono hn1)
   have hK2:=hK1.all (hb2.mono hn1)
   have hal2:=chain hal hb2
   have hn2:=Nat.le_trans hn1 hb2.size
   go_wp2_with fail
   have cc:=are2_any f hR 0 0 43 43 rfl rfl (by omega) (by omega) n d t.kids ka kc w2 hd hK2 hn2 hkl hks
   rw [hz] at cc
   refine cc.mono ?_
   rintro e w3 ⟨rfl,hb3⟩
   clear cc
   have hB3:=hB2.blw hb3
   obtain⟨y0,y1,y2,y3,y4⟩:=hB3.cells
   have h3:=h2.keep (hb3.mono hn2)
   have hN3:=hN2.keep (hb3.mono hn2)
   have hK3:=hK2.all (hb3.mono hn2)
   have hal3:=chain hal2 hb3
   have hn3:=Nat.le_trans hn2 hb3.size
   go_wp2_with fail
   go_ret
   exact⟨ret_bool (by have:=HR.out;simpa using this),hal3⟩
 by_cases hk8:t.kind=8
 ·have HR:Hid ((namelessB t && (areB (okF f) t.kids [0,0]))=r):=by
   rw [← hr];unfold termB
   rw [if_neg (by omega),if_neg (by omega),if_neg (by omega),if_pos (by omega)]
   rfl
  have k1:(t.kind == 1)=false:=by rw [hk8];rfl
  have k2:(t.kind == 2)=false:=by rw [hk8];rfl
  have k3:(t.kind == 3)=false:=by rw [hk8];rfl
  have k4:(t.kind == 4)=false:=by rw [hk8];rfl
  have k5:(t.kind == 5)=false:=by rw [hk8];rfl
  have k6:(t.kind == 6)=false:=by rw [hk8];rfl
  have k8:(t.kind == 8)=true:=by rw [hk8];rfl
  have k9:(t.kind == 9)=false:=by rw [hk8];rfl
  have k7:(t.kind == 7)=false:=by rw [hk8];rfl
  have k10:(t.kind == 10)=false:=by rw [hk8];rfl
  clear hk8 hr
  cases hq0:namelessB t
  ·rw [hq0] at HR
   go_enter Tryz.func43,Tryz.ntmps43
   go_wp2_with fail
   rw [← Hw1.out]
   clear Hw1
   have cc:=sNameless_any n w1 t _ h1
   rw [hq0] at cc
   refine cc.mono ?_
   rintro e w2 ⟨rfl,hb2⟩
   clear cc
   have hB2:=hB.blw hb2
   obtain⟨y0,y1,y2,y3,y4⟩:=hB2.cells
   have h2:=h1.keep (hb2.mono hn1)
   have hN2:=hN1.keep (hb2.mono hn1)
   have hK2:=hK1.all (hb2.mono hn1)
   have hal2:=chain hal hb2
   have hn2:=Nat.le_trans hn1 hb2.size
   go_wp2_with fail
   go_ret
   exact⟨ret_bool (by have:=HR.out;simpa using this),hal2⟩
  ·rw [hq0] at HR
   generalize hz:areB (okF f) t.kids [0,0]=z at *
   go_enter Tryz.func43,Tryz.ntmps43
   go_wp2_with fail
   rw [← Hw1.out]
   clear Hw1
   have cc:=sNameless_any n w1 t _ h1
   rw [hq0] at cc
   refine cc.mono ?_
   rintro e w2 ⟨rfl,hb2⟩
   clear cc
   have hB2:=hB.blw hb2
   obtain⟨y0,y1,y2,y3,y4⟩:=hB2.cells
   have h2:=h1.keep (hb2.mono hn1)
   have hN2:=hN1.keep (hb2.mono hn1)
   have hK2:=hK1.all (hb2.mono hn1)
   have hal2:=chain hal hb2
   have hn2:=Nat.le_trans hn1 hb2.size
   go_wp2_with fail
   have cc:=are2_any f hR 0 0 43 43 rfl rfl (by omega) (by omega) n d t.kids ka kc w2 hd hK2 hn2 hkl hks
   rw [hz] at cc
   refine cc.mono ?_
   rintro e w3 ⟨rfl,hb3⟩
   clear cc
   have hB3:=hB2.blw hb3
   obtain⟨y0,y1,y2,y3,y4⟩:=hB3.cells
   have h3:=h2.keep (hb3.mono hn2)
   have hN3:=hN2.keep (hb3.mono hn2)
   have hK3:=hK2.all (hb3.mono hn2)
   have hal3:=chain hal2 hb3
   have hn3:=Nat.le_trans hn2 hb3.size
   go_wp2_with fail
   go_ret
   exact⟨ret_bool (by have:=HR.out;simpa using this),hal3⟩
 by_cases hk9:t.kind=9
 ·have HR:Hid ((namelessB t && (areB (okF f) t.kids [0,0]))=r):=by
   rw [← hr];unfold termB
   rw [if_neg (by omega),if_neg (by omega),if_neg (by omega),if_pos (by omega)]
   rfl
  have k1:(t.kind == 1)=false:=by rw [hk9];rfl
  have k2:(t.kind == 2)=false:=by rw [hk9];rfl
  have k3:(t.kind == 3)=false:=by rw [hk9];rfl
  have k4:(t.kind == 4)=false:=by rw [hk9];rfl
  have k5:(t.kind == 5)=false:=by rw [hk9];rfl
  have k6:(t.kind == 6)=false:=by rw [hk9];rfl
  have k8:(t.kind == 8)=false:=by rw [hk9];rfl
  have k9:(t.kind == 9)=true:=by rw [hk9];rfl
  have k7:(t.kind == 7)=false:=by rw [hk9];rfl
  have k10:(t.kind == 10)=false:=by rw [hk9];rfl
  clear hk9 hr
  cases hq0:namelessB t
  ·rw [hq0] at HR
   go_enter Tryz.func43,Tryz.ntmps43
   go_wp2_with fail
   rw [← Hw1.out]
   clear Hw1
   have cc:=sNameless_any n w1 t _ h1
   rw [hq0] at cc
   refine cc.mono ?_
   rintro e w2 ⟨rfl,hb2⟩
   clear cc
   have hB2:=hB.blw hb2
   obtain⟨y0,y1,y2,y3,y4⟩:=hB2.cells
   have h2:=h1.keep (hb2.mono hn1)
   have hN2:=hN1.keep (hb2.mono hn1)
   have hK2:=hK1.all (hb2.mono hn1)
   have hal2:=chain hal hb2
   have hn2:=Nat.le_trans hn1 hb2.size
   go_wp2_with fail
   go_ret
   exact⟨ret_bool (by have:=HR.out;simpa using this),hal2⟩
  ·rw [hq0] at HR
   generalize hz:areB (okF f) t.kids [0,0]=z at *
   go_enter Tryz.func43,Tryz.ntmps43
   go_wp2_with fail
   rw [← Hw1.out]
   clear Hw1
   have cc:=sNameless_any n w1 t _ h1
   rw [hq0] at cc
   refine cc.mono ?_
   rintro e w2 ⟨rfl,hb2⟩
   clear cc
   have hB2:=hB.blw hb2
   obtain⟨y0,y1,y2,y3,y4⟩:=hB2.cells
   have h2:=h1.keep (hb2.mono hn1)
   have hN2:=hN1.keep (hb2.mono hn1)
   have hK2:=hK1.all (hb2.mono hn1)
   have hal2:=chain hal hb2
   have hn2:=Nat.le_trans hn1 hb2.size
   go_wp2_with fail
   have cc:=are2_any f hR 0 0 43 43 rfl rfl (by omega) (by omega) n d t.kids ka kc w2 hd hK2 hn2 hkl hks
   rw [hz] at cc
   refine cc.mono ?_
   rintro e w3 ⟨rfl,hb3⟩
   clear cc
   have hB3:=hB2.blw hb3
   obtain⟨y0,y1,y2,y3,y4⟩:=hB3.cells
   have h3:=h2.keep (hb3.mono hn2)
   have hN3:=hN2.keep (hb3.mono hn2)
   have hK3:=hK2.all (hb3.mono hn2)
   have hal3:=chain hal2 hb3
   have hn3:=Nat.le_trans hn2 hb3.size
   go_wp2_with fail
   go_ret
   exact⟨ret_bool (by have:=HR.out;simpa using this),hal3⟩
 by_cases hk7:t.kind=7
 ·have HR:Hid ((namelessB t && (areB (okF f) t.kids [0,1]))=r):=by
   rw [← hr];unfold termB
   rw [if_neg (by omega),if_neg (by omega),if_neg (by omega),if_neg (by omega),if_pos (by omega)]
   rfl
  have k1:(t.kind == 1)=false:=by rw [hk7];rfl
  have k2:(t.kind == 2)=false:=by rw [hk7];rfl
  have k3:(t.kind == 3)=false:=by rw [hk7];rfl
  have k4:(t.kind == 4)=false:=by rw [hk7];rfl
  have k5:(t.kind == 5)=false:=by rw [hk7];rfl
  have k6:(t.kind == 6)=false:=by rw [hk7];rfl
  have k8:(t.kind == 8)=false:=by rw [hk7];rfl
  have k9:(t.kind == 9)=false:=by rw [hk7];rfl
  have k7:(t.kind == 7)=true:=by rw [hk7];rfl
  have k10:(t.kind == 10)=false:=by rw [hk7];rfl
  clear hk7 hr
  cases hq0:namelessB t
  ·rw [hq0] at HR
   go_enter Tryz.func43,Tryz.ntmps43
   go_wp2_with fail
   rw [← Hw1.out]
   clear Hw1
   have cc:=sNameless_any n w1 t _ h1
   rw [hq0] at cc
   refine cc.mono ?_
   rintro e w2 ⟨rfl,hb2⟩
   clear cc
   have hB2:=hB.blw hb2
   obtain⟨y0,y1,y2,y3,y4⟩:=hB2.cells
   have h2:=h1.keep (hb2.mono hn1)
   have hN2:=hN1.keep (hb2.mono hn1)
   have hK2:=hK1.all (hb2.mono hn1)
   have hal2:=chain hal hb2
   have hn2:=Nat.le_trans hn1 hb2.size
   go_wp2_with fail
   go_ret
   exact⟨ret_bool (by have:=HR.out;simpa using this),hal2⟩
  ·rw [hq0] at HR
   generalize hz:areB (okF f) t.kids [0,1]=z at *
   go_enter Tryz.func43,Tryz.ntmps43
   go_wp2_with fail
   rw [← Hw1.out]
   clear Hw1
   have cc:=sNameless_any n w1 t _ h1
   rw [hq0] at cc
   refine cc.mono ?_
   rintro e w2 ⟨rfl,hb2⟩
   clear cc
   have hB2:=hB.blw hb2
   obtain⟨y0,y1,y2,y3,y4⟩:=hB2.cells
   have h2:=h1.keep (hb2.mono hn1)
   have hN2:=hN1.keep (hb2.mono hn1)
   have hK2:=hK1.all (hb2.mono hn1)
   have hal2:=chain hal hb2
   have hn2:=Nat.le_trans hn1 hb2.size
   go_wp2_with fail
   have cc:=are2_any f hR 0 1 43 70 rfl rfl (by omega) (by omega) n d t.kids ka kc w2 hd hK2 hn2 hkl hks
   rw [hz] at cc
   refine cc.mono ?_
   rintro e w3 ⟨rfl,hb3⟩
   clear cc
   have hB3:=hB2.blw hb3
   obtain⟨y0,y1,y2,y3,y4⟩:=hB3.cells
   have h3:=h2.keep (hb3.mono hn2)
   have hN3:=hN2.keep (hb3.mono hn2)
   have hK3:=hK2.all (hb3.mono hn2)
   have hal3:=chain hal2 hb3
   have hn3:=Nat.le_trans hn2 hb3.size
   go_wp2_with fail
   go_ret
   exact⟨ret_bool (by have:=HR.out;simpa using this),hal3⟩
 by_cases hk10:t.kind=10
 ·have HR:Hid ((namelessB t && (t.kids.all (okF f 2)))=r):=by
   rw [← hr];unfold termB
   rw [if_neg (by omega),if_neg (by omega),if_neg (by omega),if_neg (by omega),if_neg (by omega),if_pos (by omega)]
   rfl
  have k1:(t.kind == 1)=false:=by rw [hk10];rfl
  have k2:(t.kind == 2)=false:=by rw [hk10];rfl
  have k3:(t.kind == 3)=false:=by rw [hk10];rfl
  have k4:(t.kind == 4)=false:=by rw [hk10];rfl
  have k5:(t.kind == 5)=false:=by rw [hk10];rfl
  have k6:(t.kind == 6)=false:=by rw [hk10];rfl
  have k8:(t.kind == 8)=false:=by rw [hk10];rfl
  have k9:(t.kind == 9)=false:=by rw [hk10];rfl
  have k7:(t.kind == 7)=false:=by rw [hk10];rfl
  have k10:(t.kind == 10)=true:=by rw [hk10];rfl
  clear hk10 hr
  cases hq0:namelessB t
  ·rw [hq0] at HR
   go_enter Tryz.func43,Tryz.ntmps43
   go_wp2_with fail
   rw [← Hw1.out]
   clear Hw1
   have cc:=sNameless_any n w1 t _ h1
   rw [hq0] at cc
   refine cc.mono ?_
   rintro e w2 ⟨rfl,hb2⟩
   clear cc
   have hB2:=hB.blw hb2
   obtain⟨y0,y1,y2,y3,y4⟩:=hB2.cells
   have h2:=h1.keep (hb2.mono hn1)
   have hN2:=hN1.keep (hb2.mono hn1)
   have hK2:=hK1.all (hb2.mono hn1)
   have hal2:=chain hal hb2
   have hn2:=Nat.le_trans hn1 hb2.size
   go_wp2_with fail
   go_ret
   exact⟨ret_bool (by have:=HR.out;simpa using this),hal2⟩
  ·rw [hq0] at HR
   generalize hz:t.kids.all (okF f 2)=z at *
   go_enter Tryz.func43,Tryz.ntmps43
   go_wp2_with fail
   rw [← Hw1.out]
   clear Hw1
   have cc:=sNameless_any n w1 t _ h1
   rw [hq0] at cc
   refine cc.mono ?_
   rintro e w2 ⟨rfl,hb2⟩
   clear cc
   have hB2:=hB.blw hb2
   obtain⟨y0,y1,y2,y3,y4⟩:=hB2.cells
   have h2:=h1.keep (hb2.mono hn1)
   have hN2:=hN1.keep (hb2.mono hn1)
   have hK2:=hK1.all (hb2.mono hn1)
   have hal2:=chain hal hb2
   have hn2:=Nat.le_trans hn1 hb2.size
   go_wp2_with fail
   have cc:=all_any f hR 2 (by omega) n d t.kids ka kc w2 hd hK2 hn2 hkl hks
   rw [hz] at cc
   unfold fv at cc;rw [fid2] at cc
   refine cc.mono ?_
   rintro e w3 ⟨rfl,hb3⟩
   clear cc
   have hB3:=hB2.blw hb3
   obtain⟨y0,y1,y2,y3,y4⟩:=hB3.cells
   have h3:=h2.keep (hb3.mono hn2)
   have hN3:=hN2.keep (hb3.mono hn2)
   have hK3:=hK2.all (hb3.mono hn2)
   have hal3:=chain hal2 hb3
   have hn3:=Nat.le_trans hn2 hb3.size
   go_wp2_with fail
   go_ret
   exact⟨ret_bool (by have:=HR.out;simpa using this),hal3⟩
 have HR:Hid (false=r):=by
  rw [← hr];unfold termB
  rw [if_neg (by omega),if_neg (by omega),if_neg (by omega),if_neg (by omega),if_neg (by omega),if_neg (by omega)]
  rfl
 have k1:(t.kind == 1)=false:=by simp;omega
 have k2:(t.kind == 2)=false:=by simp;omega
 have k3:(t.kind == 3)=false:=by simp;omega
 have k4:(t.kind == 4)=false:=by simp;omega
 have k5:(t.kind == 5)=false:=by simp;omega
 have k6:(t.kind == 6)=false:=by simp;omega
 have k8:(t.kind == 8)=false:=by simp;omega
 have k9:(t.kind == 9)=false:=by simp;omega
 have k7:(t.kind == 7)=false:=by simp;omega
 have k10:(t.kind == 10)=false:=by simp;omega
 clear hr
 go_enter Tryz.func43,Tryz.ntmps43
 go_wp2_with fail
 rw [← Hw1.out]
 clear Hw1
 go_ret
 exact⟨ret_bool (by have:=HR.out;simpa using this),hal⟩
theorem rule_step (f:Nat) (hR:RuleS f):RuleS (f+1):=by
 intro g n d t v w hg hd hf h hn hb
 rw [okF_s]
 have hd':d+1+f=65537:=by omega
 rcases (show g=0∨g=1∨g=2∨g=3∨g=4 by omega) with rfl|rfl|rfl|rfl|rfl
 ·exact term_rule f hR n d t v w hd' h hn hb
 ·exact dim_rule f hR n d t v w hd' h hn hb
 ·exact elem_rule f hR n d t v w hd' h hn hb
 ·exact face_rule f hR n d t v w hd' h hn hb
 ·exact eq_rule f hR n d t v w hd' h hn hb
theorem rules_any:∀ f,RuleS f:=by
 intro f
 induction f with
 | zero=>intro g n d t v w _ _ hf;omega
 | succ f ih=>exact rule_step f ih
end Go.Proofs.YtahnbigkdfmpbaaGreatDoor
