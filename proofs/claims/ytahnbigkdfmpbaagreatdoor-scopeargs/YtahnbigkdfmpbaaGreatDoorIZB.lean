/- The words of the language in memory. What resolves, in memory; the small functions. The small functions of what resolves. Terms of two parts, and terms in many. Names as a set. -/
import Derived.Maps.OwnSet
import Derived.Maps.Views
import Derived.Test.YtahnbigkdfmpbaaGreatDoorIZA
import Derived.Test.YtahnbigkdfmpbaaGreatDoorISR
set_option linter.unusedVariables false
set_option linter.unusedSimpArgs false
namespace Go.Proofs.YtahnbigkdfmpbaaGreatDoor
open Go.RowKit Go.Maps Go.WideMaps
def Rh (v:Value):Option (DataW Value × List MemPlace):=some (.held v,[])
def WdD:List (Bs × Value)→DataW Value
 | []=>.map []
 | p :: l=>(WdD l).put (.string p.1) (.held p.2)
def findV:List (Bs × Value)→Bs→Option Value
 | [],_=>none
 | p :: l,s=>if p.1=s then some p.2 else findV l s
theorem wd_map:∀ l,IsMap (WdD l)
 | []=>isMap_empty
 | p :: l=>(wd_map l).put _ _
theorem wd_at (s:Bs) (z:DataW Value):∀ l,(WdD l).atKey (.string s) z=match findV l s with | some v=>.held v | none=>z
 | []=>rfl
 | p :: l=>by
  show ((WdD l).put (.string p.1) (.held p.2)).atKey (.string s) z=match (if p.1=s then some p.2 else findV l s) with | some v=>.held v | none=>z
  by_cases h:p.1=s
  ·rw [if_pos h,h,atKey_put_same (wd_map l) keyLit]
  ·rw [if_neg h,atKey_put_other (fun e=>h (by injection e with e;exact e.symm)),wd_at s z l]
def TkIn (lo hi:Nat) (w:World) (tk:List Nat) (v:Value):Prop:=∃ a,v=.slice a tk.length tk.length∧∀ (j x:Nat),tk[j]? = some x→∃ g,a=some ⟨g,0,none⟩∧lo<g∧g<hi∧w.cell? ⟨g,j,none⟩=some (.int .i64 (x:Nat))
def WdVals (lo hi:Nat) (w:World):List (Bs × Nat × List Nat)→List (Bs × Value)→Prop
 | [],[]=>True
 | p :: l,q :: m=>p.1=q.1∧(∃ vt,q.2=.agg #[.int .i64 (p.2.1:Nat),vt]∧TkIn lo hi w p.2.2 vt)∧WdVals lo hi w l m
 | _,_=>False
theorem TkIn.grown {lo hi hi2:Nat} {w w':World} {row:Option Nat} {tk:List Nat} {v:Value} (h:TkIn lo hi w tk v) (hh:hi≤w.heap.size) (h2i:hi≤hi2) (hg:w.grownBy w' row) (hr:∀ g,row=some g→g≤lo):TkIn lo hi2 w' tk v:=by
 obtain⟨a,h1,h2⟩:=h
 refine⟨a,h1,fun j x hx=>?_⟩
 obtain⟨g,a1,a2,a3,a4⟩:=h2 j x hx
 exact⟨g,a1,a2,Nat.lt_of_lt_of_le a3 h2i,(World.cell?_of_block (w:=w) (a:=⟨g,j,none⟩) (hg.block g (Nat.lt_of_lt_of_le a3 hh) (fun e=>by have:=hr g e.symm;omega))).trans a4⟩
theorem WdVals.grown {lo hi hi2:Nat} {w w':World} {row:Option Nat} (hh:hi≤w.heap.size) (h2i:hi≤hi2) (hg:w.grownBy w' row) (hr:∀ g,row=some g→g≤lo):∀ {l:List (Bs × Nat × List Nat)} {m:List (Bs × Value)},WdVals lo hi w l m→WdVals lo hi2 w' l m
 | [],[],_=>trivial
 | p :: l,q :: m,⟨h1,⟨vt,h2,h3⟩,h4⟩=>⟨h1,⟨vt,h2,h3.grown hh h2i hg hr⟩,WdVals.grown hh h2i hg hr h4⟩
theorem WdVals.kn {No:Nat→Prop} {lo hi:Nat} {w w':World} (hk:Kn No w w') (hh:hi≤w.heap.size) (hN:∀ g,g<hi→No g):∀ {l:List (Bs × Nat × List Nat)} {m:List (Bs × Value)},WdVals lo hi w l m→WdVals lo hi w' l m
  | [],[],_=>trivial
  | p :: l, q :: m, ⟨h1, ⟨vt, h2, ⟨a, h3, h5⟩⟩, h4⟩ => ⟨h1, ⟨vt, h2, ⟨a, h3, fun j x hx => by
      obtain⟨g,a1,a2,a3,a4⟩:=h5 j x hx
      exact⟨g,a1,a2,a3,(hk.cell (p:=⟨g,j,none⟩) (hN g a3) (Nat.lt_of_lt_of_le a3 hh)).trans a4⟩⟩⟩,WdVals.kn hk hh hN h4⟩
theorem WdVals.find {lo hi:Nat} {w:World} (s:Bs):∀ {l:List (Bs × Nat × List Nat)} {m:List (Bs × Value)},WdVals lo hi w l m→(match findW l s with | some p=>∃ vt,findV m s=some (.agg #[.int .i64 (p.1:Nat),vt])∧TkIn lo hi w p.2 vt | none=>findV m s=none)
 | [],[],_=>rfl
 | p :: l,q :: m,⟨h1,⟨vt,h2,h3⟩,h4⟩=>by
  have ih:=WdVals.find s h4
  obtain⟨k,x⟩:=p
  obtain⟨k2,v⟩:=q
  simp only at h1 h2 h3
  subst h1 h2
  unfold findW findV
  by_cases h:k=s
  ·rw [if_pos h]
   simp only
   rw [if_pos h]
   exact⟨vt,rfl,h3⟩
  ·rw [if_neg h]
   simp only
   rw [if_neg h]
   exact ih
theorem zeroWord (w:World):(zeroValue 97).run Tryz.prog w=.ok (.agg #[.int .i64 0,.slice none 0 0]) w:=by kernel_rfl
def WdIn (w:World) (b hi:Nat):Prop:=b<hi∧hi≤w.heap.size∧∃ m,w.ownsMap Tryz.prog 9 Rh b 18 (WdD m)∧WdVals b hi w wdR m
theorem WdIn.kn {No:Nat→Prop} {w w':World} {b hi:Nat} (h:WdIn w b hi) (hk:Kn No w w') (hN:∀ g,g<hi→No g):WdIn w' b hi:=by
 obtain⟨hb,hh,m,⟨es,clock,h1,h2⟩,h3⟩:=h
 exact⟨hb,Nat.le_trans hh hk.size,m,⟨es,clock,(hk.block b (hN b hb) (Nat.lt_of_lt_of_le hb hh)).trans h1,h2⟩,h3.kn hk hh hN⟩
set_option maxRecDepth 100000 in
theorem WdIn.look {w:World} {b hi:Nat} (h:WdIn w b hi) (s:Bs) (hs:s.length≤1000000) (c:Bool):∃ vt,TkIn b hi w (wdOf s).2 vt ∧
  (Instr.lookup 71 (.map (some b)) (.string (bs s)) c).run Tryz.prog w=.ok (if c then .tuple #[.agg #[.int .i64 ((wdOf s).1:Nat),vt],.bool (isWd s)] else .agg #[.int .i64 ((wdOf s).1:Nat),vt]) w:=by
 obtain⟨_,_,m,⟨es,clock,hb,F,hsz,hD⟩,hv⟩:=h
 have hf:=hv.find s
 have hA:=Maps.fit_look c lawStr Tryz.underlying71 (zeroWord w) hb F (keyS s hs)
 rw [← hD] at hA
 unfold wdOf isWd wordT
 cases hw:findW wdR s with
 | none =>
  rw [hw] at hf
  refine⟨.slice none 0 0,⟨none,rfl,fun j x hx=>by simp at hx⟩,?_⟩
  rcases hA with ⟨h1,_,_⟩|⟨e0,y,_,_,_,hR,h3,_⟩
  ·rw [h1];cases c <;> rfl
  ·have e1:=h3 .nil
   rw [wd_at,hf] at e1
   unfold Rh at hR
   injection hR with hR
   rw [← hR] at e1
   cases e1
 | some p =>
  rw [hw] at hf
  obtain⟨vt,h2,h4⟩:=hf
  refine⟨vt,h4,?_⟩
  rcases hA with ⟨h1,_,h5⟩|⟨e0,y,_,_,h1,hR,h3,_⟩
  ·have e1:=h5 .nil
   rw [wd_at,h2] at e1
   cases e1
  ·have e1:=h3 .nil
   rw [wd_at,h2] at e1
   unfold Rh at hR
   injection hR with hR
   rw [← hR] at e1
   injection e1 with e1
   rw [h1,← e1]
   cases c <;> rfl
theorem ins_own {w:World} {b n:Nat} {l:List (Bs × Value)} (hown:w.ownsMap Tryz.prog 9 Rh b n (WdD l)) (hn:n<100) (s:Bs) (hs:s.length≤100) (S:ByteArray) (hS:S=bs s) (val:Value) :
  ∃ w',(Instr.mapUpdate 71 (.map (some b)) (.string S) val).run Tryz.prog w=.ok () w'∧w'.ownsMap Tryz.prog 9 Rh b (n+1) (WdD ((s,val) :: l))∧w.grownBy w' (some b):=by
 subst hS
 exact hown.update lawStr Tryz.underlying71 (show n<maxLen by unfold maxLen;omega) (keyS s (by omega)) (show Rh val=some (.held val,[]) from rfl)
theorem tk_new {lo:Nat} (w:World) (hlo:lo<w.heap.size) (tk:List Nat) (cs:Array Value) (h:cs.toList=tk.map fun x=>.int .i64 ((x:Nat):Int)) (ty:TypeId):TkIn lo (w.alloc (.cells cs ty)).heap.size (w.alloc (.cells cs ty)) tk (.slice (some ⟨w.heap.size,0,none⟩) tk.length tk.length):=by
 refine⟨_,rfl,fun j x hx=>⟨w.heap.size,rfl,hlo,by simp,?_⟩⟩
 have e:(w.alloc (.cells cs ty)).heap[w.heap.size]? = some (.cells cs ty (0,0)):=heap_alloc_new w _
 unfold World.cell?
 simp only [e]
 have e2:cs[j]? = some (.int .i64 (x:Nat)):=by rw [← Array.getElem?_toList,h,List.getElem?_map,hx];rfl
 simpa using e2
theorem grown_none {w w':World} (h:Below w.heap.size w w'):w.grownBy w' none:=⟨h.os,h.tape,h.output,h.size,fun k hk _=>h.block k hk⟩
set_option maxRecDepth 100000 in
set_option maxHeartbeats 8000000 in
theorem words_any (w:World):Calls Tryz.prog 20 #[] w fun e w'=>e=.returned (.map (some w.heap.size))∧WdIn w' w.heap.size w'.heap.size∧Below w.heap.size w w':=by
 have hmm:=@run_makeMap Tryz.prog
 obtain⟨B,hB⟩:∃ B,B=w.heap.size:=⟨_,rfl⟩
 obtain⟨w0,hw0⟩:∃ w0,w0=w.alloc (.map #[] 0):=⟨_,rfl⟩
 have o0:w0.ownsMap Tryz.prog 9 Rh B 0 (WdD []):=by rw [hw0,hB];exact World.ownsMap_made _ _ _ _
 have v0:WdVals B w0.heap.size w0 [] []:=trivial
 have b0:Below B w w0:=by rw [hw0,hB];exact (Below.refl _ _).alloc (Nat.le_refl _) _
 have s0:B<w0.heap.size:=by rw [hw0,hB];simp
 rw [← hB]
 obtain⟨w1,r0,o1,g0⟩:=ins_own o0 (by omega) [85] (by simp) ⟨#[85]⟩ rfl (.agg #[.int .i64 3,.slice none 0 0])
 have v1:WdVals B w1.heap.size w1 [([85],3,[])] [([85],.agg #[.int .i64 3,.slice none 0 0])]:=⟨rfl,⟨_,rfl,none,rfl,fun j x hx=>by simp at hx⟩,WdVals.grown (Nat.le_refl _) g0.size g0 (fun g e=>by injection e with e;omega) v0⟩
 have b1:Below B w w1:=b0.grown g0 (Nat.le_of_lt s0) (fun j hj=>by injection hj with hj;omega)
 have s1:B<w1.heap.size:=Nat.lt_of_lt_of_le s0 g0.size
 clear o0 v0 b0 s0 g0
 obtain⟨w2,r1,o2,g1⟩:=ins_own o1 (by omega) [83,49] (by simp) ⟨#[83,49]⟩ rfl (.agg #[.int .i64 19,.slice none 0 0])
 have v2:WdVals B w2.heap.size w2 [([83,49],19,[]),([85],3,[])] [([83,49],.agg #[.int .i64 19,.slice none 0 0]),([85],.agg #[.int .i64 3,.slice none 0 0])]:=⟨rfl,⟨_,rfl,none,rfl,fun j x hx=>by simp at hx⟩,WdVals.grown (Nat.le_refl _) g1.size g1 (fun g e=>by injection e with e;omega) v1⟩
 have b2:Below B w w2:=b1.grown g1 (Nat.le_of_lt s1) (fun j hj=>by injection hj with hj;omega)
 have s2:B<w2.heap.size:=Nat.lt_of_lt_of_le s1 g1.size
 clear o1 v1 b1 s1 g1
 obtain⟨w3,r2,o3,g2⟩:=ins_own o2 (by omega) [98,97,115,101] (by simp) ⟨#[98,97,115,101]⟩ rfl (.agg #[.int .i64 20,.slice none 0 0])
 have v3:WdVals B w3.heap.size w3 [([98,97,115,101],20,[]),([83,49],19,[]),([85],3,[])] [([98,97,115,101],.agg #[.int .i64 20,.slice none 0 0]),([83,49],.agg #[.int .i64 19,.slice none 0 0]),([85],.agg #[.int .i64 3,.slice none 0 0])]:=⟨rfl,⟨_,rfl,none,rfl,fun j x hx=>by simp at hx⟩,WdVals.grown (Nat.le_refl _) g2.size g2 (fun g e=>by injection e with e;omega) v2⟩
 have b3:Below B w w3:=b2.grown g2 (Nat.le_of_lt s2) (fun j hj=>by injection hj with hj;omega)
 have s3:B<w3.heap.size:=Nat.lt_of_lt_of_le s2 g2.size
 clear o2 v2 b2 s2 g2
 obtain⟨w4,r3,o4,g3⟩:=ins_own o3 (by omega) [110,111,114,116,104] (by simp) ⟨#[110,111,114,116,104]⟩ rfl (.agg #[.int .i64 24,.slice none 0 0])
 have v4:WdVals B w4.heap.size w4 [([110,111,114,116,104],24,[]),([98,97,115,101],20,[]),([83,49],19,[]),([85],3,[])] [([110,111,114,116,104],.agg #[.int .i64 24,.slice none 0 0]),([98,97,115,101],.agg #[.int .i64 20,.slice none 0 0]),([83,49],.agg #[.int .i64 19,.slice none 0 0]),([85],.agg #[.int .i64 3,.slice none 0 0])]:=⟨rfl,⟨_,rfl,none,rfl,fun j x hx=>by simp at hx⟩,WdVals.grown (Nat.le_refl _) g3.size g3 (fun g e=>by injection e with e;omega) v3⟩
 have b4:Below B w w4:=b3.grown g3 (Nat.le_of_lt s3) (fun j hj=>by injection hj with hj;omega)
 have s4:B<w4.heap.size:=Nat.lt_of_lt_of_le s3 g3.size
 clear o3 v3 b3 s3 g3
 obtain⟨w5,r4,o5,g4⟩:=ins_own o4 (by omega) [115,111,117,116,104] (by simp) ⟨#[115,111,117,116,104]⟩ rfl (.agg #[.int .i64 25,.slice none 0 0])
 have v5:WdVals B w5.heap.size w5 [([115,111,117,116,104],25,[]),([110,111,114,116,104],24,[]),([98,97,115,101],20,[]),([83,49],19,[]),([85],3,[])] [([115,111,117,116,104],.agg #[.int .i64 25,.slice none 0 0]),([110,111,114,116,104],.agg #[.int .i64 24,.slice none 0 0]),([98,97,115,101],.agg #[.int .i64 20,.slice none 0 0]),([83,49],.agg #[.int .i64 19,.slice none 0 0]),([85],.agg #[.int .i64 3,.slice none 0 0])]:=⟨rfl,⟨_,rfl,none,rfl,fun j x hx=>by simp at hx⟩,WdVals.grown (Nat.le_refl _) g4.size g4 (fun g e=>by injection e with e;omega) v4⟩
 have b5:Below B w w5:=b4.grown g4 (Nat.le_of_lt s4) (fun j hj=>by injection hj with hj;omega)
 have s5:B<w5.heap.size:=Nat.lt_of_lt_of_le s4 g4.size
 clear o4 v4 b4 s4 g4
 obtain⟨w6,r5,o6,g5⟩:=ins_own o5 (by omega) [108,111,111,112] (by simp) ⟨#[108,111,111,112]⟩ rfl (.agg #[.int .i64 21,.slice none 0 0])
 have v6:WdVals B w6.heap.size w6 [([108,111,111,112],21,[]),([115,111,117,116,104],25,[]),([110,111,114,116,104],24,[]),([98,97,115,101],20,[]),([83,49],19,[]),([85],3,[])] [([108,111,111,112],.agg #[.int .i64 21,.slice none 0 0]),([115,111,117,116,104],.agg #[.int .i64 25,.slice none 0 0]),([110,111,114,116,104],.agg #[.int .i64 24,.slice none 0 0]),([98,97,115,101],.agg #[.int .i64 20,.slice none 0 0]),([83,49],.agg #[.int .i64 19,.slice none 0 0]),([85],.agg #[.int .i64 3,.slice none 0 0])]:=⟨rfl,⟨_,rfl,none,rfl,fun j x hx=>by simp at hx⟩,WdVals.grown (Nat.le_refl _) g5.size g5 (fun g e=>by injection e with e;omega) v5⟩
 have b6:Below B w w6:=b5.grown g5 (Nat.le_of_lt s5) (fun j hj=>by injection hj with hj;omega)
 have s6:B<w6.heap.size:=Nat.lt_of_lt_of_le s5 g5.size
 clear o5 v5 b5 s5 g5
 have hal6:=below_alloc w6 (.cells #[.int .i64 0] 98)
 have ht6:=tk_new (lo:=B) w6 s6 [0] #[.int .i64 0] rfl 98
 have o6x:=o6.kept (grown_none hal6) (by simp)
 have v6x:=WdVals.grown (Nat.le_refl _) hal6.size (grown_none hal6) (fun g e=>by cases e) v6
 have s6x:B<(w6.alloc (.cells #[.int .i64 0] 98)).heap.size:=Nat.lt_of_lt_of_le s6 hal6.size
 have b6x:Below B w (w6.alloc (.cells #[.int .i64 0] 98)):=b6.trans (hal6.mono (Nat.le_of_lt s6))
 obtain⟨w7,r6,o7,g6⟩:=ins_own o6x (by omega) [102,115,116] (by simp) ⟨#[102,115,116]⟩ rfl (.agg #[.int .i64 9,.slice (some ⟨w6.heap.size,0,none⟩) 1 1])
 have v7:WdVals B w7.heap.size w7 [([102,115,116],9,[0]),([108,111,111,112],21,[]),([115,111,117,116,104],25,[]),([110,111,114,116,104],24,[]),([98,97,115,101],20,[]),([83,49],19,[]),([85],3,[])] [([102,115,116],.agg #[.int .i64 9,.slice (some ⟨w6.heap.size,0,none⟩) 1 1]),([108,111,111,112],.agg #[.int .i64 21,.slice none 0 0]),([115,111,117,116,104],.agg #[.int .i64 25,.slice none 0 0]),([110,111,114,116,104],.agg #[.int .i64 24,.slice none 0 0]),([98,97,115,101],.agg #[.int .i64 20,.slice none 0 0]),([83,49],.agg #[.int .i64 19,.slice none 0 0]),([85],.agg #[.int .i64 3,.slice none 0 0])]:=⟨rfl,⟨_,rfl,ht6.grown (Nat.le_refl _) g6.size g6 (fun g e=>by injection e with e;omega)⟩,WdVals.grown (Nat.le_refl _) g6.size g6 (fun g e=>by injection e with e;omega) v6x⟩
 have b7:Below B w w7:=b6x.grown g6 (Nat.le_of_lt s6x) (fun j hj=>by injection hj with hj;omega)
 have s7:B<w7.heap.size:=Nat.lt_of_lt_of_le s6x g6.size
 clear o6 v6 b6 s6 g6 o6x v6x b6x s6x ht6 hal6
 have hal7:=below_alloc w7 (.cells #[.int .i64 0] 98)
 have ht7:=tk_new (lo:=B) w7 s7 [0] #[.int .i64 0] rfl 98
 have o7x:=o7.kept (grown_none hal7) (by simp)
 have v7x:=WdVals.grown (Nat.le_refl _) hal7.size (grown_none hal7) (fun g e=>by cases e) v7
 have s7x:B<(w7.alloc (.cells #[.int .i64 0] 98)).heap.size:=Nat.lt_of_lt_of_le s7 hal7.size
 have b7x:Below B w (w7.alloc (.cells #[.int .i64 0] 98)):=b7.trans (hal7.mono (Nat.le_of_lt s7))
 obtain⟨w8,r7,o8,g7⟩:=ins_own o7x (by omega) [115,110,100] (by simp) ⟨#[115,110,100]⟩ rfl (.agg #[.int .i64 10,.slice (some ⟨w7.heap.size,0,none⟩) 1 1])
 have v8:WdVals B w8.heap.size w8 [([115,110,100],10,[0]),([102,115,116],9,[0]),([108,111,111,112],21,[]),([115,111,117,116,104],25,[]),([110,111,114,116,104],24,[]),([98,97,115,101],20,[]),([83,49],19,[]),([85],3,[])] [([115,110,100],.agg #[.int .i64 10,.slice (some ⟨w7.heap.size,0,none⟩) 1 1]),([102,115,116],.agg #[.int .i64 9,.slice (some ⟨w6.heap.size,0,none⟩) 1 1]),([108,111,111,112],.agg #[.int .i64 21,.slice none 0 0]),([115,111,117,116,104],.agg #[.int .i64 25,.slice none 0 0]),([110,111,114,116,104],.agg #[.int .i64 24,.slice none 0 0]),([98,97,115,101],.agg #[.int .i64 20,.slice none 0 0]),([83,49],.agg #[.int .i64 19,.slice none 0 0]),([85],.agg #[.int .i64 3,.slice none 0 0])]:=⟨rfl,⟨_,rfl,ht7.grown (Nat.le_refl _) g7.size g7 (fun g e=>by injection e with e;omega)⟩,WdVals.grown (Nat.le_refl _) g7.size g7 (fun g e=>by injection e with e;omega) v7x⟩
 have b8:Below B w w8:=b7x.grown g7 (Nat.le_of_lt s7x) (fun j hj=>by injection hj with hj;omega)
 have s8:B<w8.heap.size:=Nat.lt_of_lt_of_le s7x g7.size
 clear o7 v7 b7 s7 g7 o7x v7x b7x s7x ht7 hal7
 have hal8:=below_alloc w8 (.cells #[.int .i64 0] 98)
 have ht8:=tk_new (lo:=B) w8 s8 [0] #[.int .i64 0] rfl 98
 have o8x:=o8.kept (grown_none hal8) (by simp)
 have v8x:=WdVals.grown (Nat.le_refl _) hal8.size (grown_none hal8) (fun g e=>by cases e) v8
 have s8x:B<(w8.alloc (.cells #[.int .i64 0] 98)).heap.size:=Nat.lt_of_lt_of_le s8 hal8.size
 have b8x:Below B w (w8.alloc (.cells #[.int .i64 0] 98)):=b8.trans (hal8.mono (Nat.le_of_lt s8))
 obtain⟨w9,r8,o9,g8⟩:=ins_own o8x (by omega) [83,117,115,112] (by simp) ⟨#[83,117,115,112]⟩ rfl (.agg #[.int .i64 23,.slice (some ⟨w8.heap.size,0,none⟩) 1 1])
 have v9:WdVals B w9.heap.size w9 [([83,117,115,112],23,[0]),([115,110,100],10,[0]),([102,115,116],9,[0]),([108,111,111,112],21,[]),([115,111,117,116,104],25,[]),([110,111,114,116,104],24,[]),([98,97,115,101],20,[]),([83,49],19,[]),([85],3,[])] [([83,117,115,112],.agg #[.int .i64 23,.slice (some ⟨w8.heap.size,0,none⟩) 1 1]),([115,110,100],.agg #[.int .i64 10,.slice (some ⟨w7.heap.size,0,none⟩) 1 1]),([102,115,116],.agg #[.int .i64 9,.slice (some ⟨w6.heap.size,0,none⟩) 1 1]),([108,111,111,112],.agg #[.int .i64 21,.slice none 0 0]),([115,111,117,116,104],.agg #[.int .i64 25,.slice none 0 0]),([110,111,114,116,104],.agg #[.int .i64 24,.slice none 0 0]),([98,97,115,101],.agg #[.int .i64 20,.slice none 0 0]),([83,49],.agg #[.int .i64 19,.slice none 0 0]),([85],.agg #[.int .i64 3,.slice none 0 0])]:=⟨rfl,⟨_,rfl,ht8.grown (Nat.le_refl _) g8.size g8 (fun g e=>by injection e with e;omega)⟩,WdVals.grown (Nat.le_refl _) g8.size g8 (fun g e=>by injection e with e;omega) v8x⟩
 have b9:Below B w w9:=b8x.grown g8 (Nat.le_of_lt s8x) (fun j hj=>by injection hj with hj;omega)
 have s9:B<w9.heap.size:=Nat.lt_of_lt_of_le s8x g8.size
 clear o8 v8 b8 s8 g8 o8x v8x b8x s8x ht8 hal8
 have hal9:=below_alloc w9 (.cells #[.int .i64 0] 98)
 have ht9:=tk_new (lo:=B) w9 s9 [0] #[.int .i64 0] rfl 98
 have o9x:=o9.kept (grown_none hal9) (by simp)
 have v9x:=WdVals.grown (Nat.le_refl _) hal9.size (grown_none hal9) (fun g e=>by cases e) v9
 have s9x:B<(w9.alloc (.cells #[.int .i64 0] 98)).heap.size:=Nat.lt_of_lt_of_le s9 hal9.size
 have b9x:Below B w (w9.alloc (.cells #[.int .i64 0] 98)):=b9.trans (hal9.mono (Nat.le_of_lt s9))
 obtain⟨w10,r9,o10,g9⟩:=ins_own o9x (by omega) [117,110,103,108,117,101] (by simp) ⟨#[117,110,103,108,117,101]⟩ rfl (.agg #[.int .i64 18,.slice (some ⟨w9.heap.size,0,none⟩) 1 1])
 have v10:WdVals B w10.heap.size w10 [([117,110,103,108,117,101],18,[0]),([83,117,115,112],23,[0]),([115,110,100],10,[0]),([102,115,116],9,[0]),([108,111,111,112],21,[]),([115,111,117,116,104],25,[]),([110,111,114,116,104],24,[]),([98,97,115,101],20,[]),([83,49],19,[]),([85],3,[])] [([117,110,103,108,117,101],.agg #[.int .i64 18,.slice (some ⟨w9.heap.size,0,none⟩) 1 1]),([83,117,115,112],.agg #[.int .i64 23,.slice (some ⟨w8.heap.size,0,none⟩) 1 1]),([115,110,100],.agg #[.int .i64 10,.slice (some ⟨w7.heap.size,0,none⟩) 1 1]),([102,115,116],.agg #[.int .i64 9,.slice (some ⟨w6.heap.size,0,none⟩) 1 1]),([108,111,111,112],.agg #[.int .i64 21,.slice none 0 0]),([115,111,117,116,104],.agg #[.int .i64 25,.slice none 0 0]),([110,111,114,116,104],.agg #[.int .i64 24,.slice none 0 0]),([98,97,115,101],.agg #[.int .i64 20,.slice none 0 0]),([83,49],.agg #[.int .i64 19,.slice none 0 0]),([85],.agg #[.int .i64 3,.slice none 0 0])]:=⟨rfl,⟨_,rfl,ht9.grown (Nat.le_refl _) g9.size g9 (fun g e=>by injection e with e;omega)⟩,WdVals.grown (Nat.le_refl _) g9.size g9 (fun g e=>by injection e with e;omega) v9x⟩
 have b10:Below B w w10:=b9x.grown g9 (Nat.le_of_lt s9x) (fun j hj=>by injection hj with hj;omega)
 have s10:B<w10.heap.size:=Nat.lt_of_lt_of_le s9x g9.size
 clear o9 v9 b9 s9 g9 o9x v9x b9x s9x ht9 hal9
 have hal10:=below_alloc w10 (.cells #[.int .i64 0] 98)
 have ht10:=tk_new (lo:=B) w10 s10 [0] #[.int .i64 0] rfl 98
 have o10x:=o10.kept (grown_none hal10) (by simp)
 have v10x:=WdVals.grown (Nat.le_refl _) hal10.size (grown_none hal10) (fun g e=>by cases e) v10
 have s10x:B<(w10.alloc (.cells #[.int .i64 0] 98)).heap.size:=Nat.lt_of_lt_of_le s10 hal10.size
 have b10x:Below B w (w10.alloc (.cells #[.int .i64 0] 98)):=b10.trans (hal10.mono (Nat.le_of_lt s10))
 obtain⟨w11,r10,o11,g10⟩:=ins_own o10x (by omega) [109,101,114,105,100] (by simp) ⟨#[109,101,114,105,100]⟩ rfl (.agg #[.int .i64 26,.slice (some ⟨w10.heap.size,0,none⟩) 1 1])
 have v11:WdVals B w11.heap.size w11 [([109,101,114,105,100],26,[0]),([117,110,103,108,117,101],18,[0]),([83,117,115,112],23,[0]),([115,110,100],10,[0]),([102,115,116],9,[0]),([108,111,111,112],21,[]),([115,111,117,116,104],25,[]),([110,111,114,116,104],24,[]),([98,97,115,101],20,[]),([83,49],19,[]),([85],3,[])] [([109,101,114,105,100],.agg #[.int .i64 26,.slice (some ⟨w10.heap.size,0,none⟩) 1 1]),([117,110,103,108,117,101],.agg #[.int .i64 18,.slice (some ⟨w9.heap.size,0,none⟩) 1 1]),([83,117,115,112],.agg #[.int .i64 23,.slice (some ⟨w8.heap.size,0,none⟩) 1 1]),([115,110,100],.agg #[.int .i64 10,.slice (some ⟨w7.heap.size,0,none⟩) 1 1]),([102,115,116],.agg #[.int .i64 9,.slice (some ⟨w6.heap.size,0,none⟩) 1 1]),([108,111,111,112],.agg #[.int .i64 21,.slice none 0 0]),([115,111,117,116,104],.agg #[.int .i64 25,.slice none 0 0]),([110,111,114,116,104],.agg #[.int .i64 24,.slice none 0 0]),([98,97,115,101],.agg #[.int .i64 20,.slice none 0 0]),([83,49],.agg #[.int .i64 19,.slice none 0 0]),([85],.agg #[.int .i64 3,.slice none 0 0])]:=⟨rfl,⟨_,rfl,ht10.grown (Nat.le_refl _) g10.size g10 (fun g e=>by injection e with e;omega)⟩,WdVals.grown (Nat.le_refl _) g10.size g10 (fun g e=>by injection e with e;omega) v10x⟩
 have b11:Below B w w11:=b10x.grown g10 (Nat.le_of_lt s10x) (fun j hj=>by injection hj with hj;omega)
 have s11:B<w11.heap.size:=Nat.lt_of_lt_of_le s10x g10.size
 clear o10 v10 b10 s10 g10 o10x v10x b10x s10x ht10 hal10
 have hal11:=below_alloc w11 (.cells #[.int .i64 0,.int .i64 6] 98)
 have ht11:=tk_new (lo:=B) w11 s11 [0,6] #[.int .i64 0,.int .i64 6] rfl 98
 have o11x:=o11.kept (grown_none hal11) (by simp)
 have v11x:=WdVals.grown (Nat.le_refl _) hal11.size (grown_none hal11) (fun g e=>by cases e) v11
 have s11x:B<(w11.alloc (.cells #[.int .i64 0,.int .i64 6] 98)).heap.size:=Nat.lt_of_lt_of_le s11 hal11.size
 have b11x:Below B w (w11.alloc (.cells #[.int .i64 0,.int .i64 6] 98)):=b11.trans (hal11.mono (Nat.le_of_lt s11))
 obtain⟨w12,r11,o12,g11⟩:=ins_own o11x (by omega) [103,108,117,101] (by simp) ⟨#[103,108,117,101]⟩ rfl (.agg #[.int .i64 17,.slice (some ⟨w11.heap.size,0,none⟩) 2 2])
 have v12:WdVals B w12.heap.size w12 [([103,108,117,101],17,[0,6]),([109,101,114,105,100],26,[0]),([117,110,103,108,117,101],18,[0]),([83,117,115,112],23,[0]),([115,110,100],10,[0]),([102,115,116],9,[0]),([108,111,111,112],21,[]),([115,111,117,116,104],25,[]),([110,111,114,116,104],24,[]),([98,97,115,101],20,[]),([83,49],19,[]),([85],3,[])] [([103,108,117,101],.agg #[.int .i64 17,.slice (some ⟨w11.heap.size,0,none⟩) 2 2]),([109,101,114,105,100],.agg #[.int .i64 26,.slice (some ⟨w10.heap.size,0,none⟩) 1 1]),([117,110,103,108,117,101],.agg #[.int .i64 18,.slice (some ⟨w9.heap.size,0,none⟩) 1 1]),([83,117,115,112],.agg #[.int .i64 23,.slice (some ⟨w8.heap.size,0,none⟩) 1 1]),([115,110,100],.agg #[.int .i64 10,.slice (some ⟨w7.heap.size,0,none⟩) 1 1]),([102,115,116],.agg #[.int .i64 9,.slice (some ⟨w6.heap.size,0,none⟩) 1 1]),([108,111,111,112],.agg #[.int .i64 21,.slice none 0 0]),([115,111,117,116,104],.agg #[.int .i64 25,.slice none 0 0]),([110,111,114,116,104],.agg #[.int .i64 24,.slice none 0 0]),([98,97,115,101],.agg #[.int .i64 20,.slice none 0 0]),([83,49],.agg #[.int .i64 19,.slice none 0 0]),([85],.agg #[.int .i64 3,.slice none 0 0])]:=⟨rfl,⟨_,rfl,ht11.grown (Nat.le_refl _) g11.size g11 (fun g e=>by injection e with e;omega)⟩,WdVals.grown (Nat.le_refl _) g11.size g11 (fun g e=>by injection e with e;omega) v11x⟩
 have b12:Below B w w12:=b11x.grown g11 (Nat.le_of_lt s11x) (fun j hj=>by injection hj with hj;omega)
 have s12:B<w12.heap.size:=Nat.lt_of_lt_of_le s11x g11.size
 clear o11 v11 b11 s11 g11 o11x v11x b11x s11x ht11 hal11
 have hal12:=below_alloc w12 (.cells #[.int .i64 0,.int .i64 5] 98)
 have ht12:=tk_new (lo:=B) w12 s12 [0,5] #[.int .i64 0,.int .i64 5] rfl 98
 have o12x:=o12.kept (grown_none hal12) (by simp)
 have v12x:=WdVals.grown (Nat.le_refl _) hal12.size (grown_none hal12) (fun g e=>by cases e) v12
 have s12x:B<(w12.alloc (.cells #[.int .i64 0,.int .i64 5] 98)).heap.size:=Nat.lt_of_lt_of_le s12 hal12.size
 have b12x:Below B w (w12.alloc (.cells #[.int .i64 0,.int .i64 5] 98)):=b12.trans (hal12.mono (Nat.le_of_lt s12))
 obtain⟨w13,r12,o13,g12⟩:=ins_own o12x (by omega) [71,108,117,101] (by simp) ⟨#[71,108,117,101]⟩ rfl (.agg #[.int .i64 16,.slice (some ⟨w12.heap.size,0,none⟩) 2 2])
 have v13:WdVals B w13.heap.size w13 [([71,108,117,101],16,[0,5]),([103,108,117,101],17,[0,6]),([109,101,114,105,100],26,[0]),([117,110,103,108,117,101],18,[0]),([83,117,115,112],23,[0]),([115,110,100],10,[0]),([102,115,116],9,[0]),([108,111,111,112],21,[]),([115,111,117,116,104],25,[]),([110,111,114,116,104],24,[]),([98,97,115,101],20,[]),([83,49],19,[]),([85],3,[])] [([71,108,117,101],.agg #[.int .i64 16,.slice (some ⟨w12.heap.size,0,none⟩) 2 2]),([103,108,117,101],.agg #[.int .i64 17,.slice (some ⟨w11.heap.size,0,none⟩) 2 2]),([109,101,114,105,100],.agg #[.int .i64 26,.slice (some ⟨w10.heap.size,0,none⟩) 1 1]),([117,110,103,108,117,101],.agg #[.int .i64 18,.slice (some ⟨w9.heap.size,0,none⟩) 1 1]),([83,117,115,112],.agg #[.int .i64 23,.slice (some ⟨w8.heap.size,0,none⟩) 1 1]),([115,110,100],.agg #[.int .i64 10,.slice (some ⟨w7.heap.size,0,none⟩) 1 1]),([102,115,116],.agg #[.int .i64 9,.slice (some ⟨w6.heap.size,0,none⟩) 1 1]),([108,111,111,112],.agg #[.int .i64 21,.slice none 0 0]),([115,111,117,116,104],.agg #[.int .i64 25,.slice none 0 0]),([110,111,114,116,104],.agg #[.int .i64 24,.slice none 0 0]),([98,97,115,101],.agg #[.int .i64 20,.slice none 0 0]),([83,49],.agg #[.int .i64 19,.slice none 0 0]),([85],.agg #[.int .i64 3,.slice none 0 0])]:=⟨rfl,⟨_,rfl,ht12.grown (Nat.le_refl _) g12.size g12 (fun g e=>by injection e with e;omega)⟩,WdVals.grown (Nat.le_refl _) g12.size g12 (fun g e=>by injection e with e;omega) v12x⟩
 have b13:Below B w w13:=b12x.grown g12 (Nat.le_of_lt s12x) (fun j hj=>by injection hj with hj;omega)
 have s13:B<w13.heap.size:=Nat.lt_of_lt_of_le s12x g12.size
 clear o12 v12 b12 s12 g12 o12x v12x b12x s12x ht12 hal12
 have hal13:=below_alloc w13 (.cells #[.int .i64 1,.int .i64 0,.int .i64 0] 98)
 have ht13:=tk_new (lo:=B) w13 s13 [1,0,0] #[.int .i64 1,.int .i64 0,.int .i64 0] rfl 98
 have o13x:=o13.kept (grown_none hal13) (by simp)
 have v13x:=WdVals.grown (Nat.le_refl _) hal13.size (grown_none hal13) (fun g e=>by cases e) v13
 have s13x:B<(w13.alloc (.cells #[.int .i64 1,.int .i64 0,.int .i64 0] 98)).heap.size:=Nat.lt_of_lt_of_le s13 hal13.size
 have b13x:Below B w (w13.alloc (.cells #[.int .i64 1,.int .i64 0,.int .i64 0] 98)):=b13.trans (hal13.mono (Nat.le_of_lt s13))
 obtain⟨w14,r13,o14,g13⟩:=ins_own o13x (by omega) [80,97,116,104] (by simp) ⟨#[80,97,116,104]⟩ rfl (.agg #[.int .i64 11,.slice (some ⟨w13.heap.size,0,none⟩) 3 3])
 have v14:WdVals B w14.heap.size w14 [([80,97,116,104],11,[1,0,0]),([71,108,117,101],16,[0,5]),([103,108,117,101],17,[0,6]),([109,101,114,105,100],26,[0]),([117,110,103,108,117,101],18,[0]),([83,117,115,112],23,[0]),([115,110,100],10,[0]),([102,115,116],9,[0]),([108,111,111,112],21,[]),([115,111,117,116,104],25,[]),([110,111,114,116,104],24,[]),([98,97,115,101],20,[]),([83,49],19,[]),([85],3,[])] [([80,97,116,104],.agg #[.int .i64 11,.slice (some ⟨w13.heap.size,0,none⟩) 3 3]),([71,108,117,101],.agg #[.int .i64 16,.slice (some ⟨w12.heap.size,0,none⟩) 2 2]),([103,108,117,101],.agg #[.int .i64 17,.slice (some ⟨w11.heap.size,0,none⟩) 2 2]),([109,101,114,105,100],.agg #[.int .i64 26,.slice (some ⟨w10.heap.size,0,none⟩) 1 1]),([117,110,103,108,117,101],.agg #[.int .i64 18,.slice (some ⟨w9.heap.size,0,none⟩) 1 1]),([83,117,115,112],.agg #[.int .i64 23,.slice (some ⟨w8.heap.size,0,none⟩) 1 1]),([115,110,100],.agg #[.int .i64 10,.slice (some ⟨w7.heap.size,0,none⟩) 1 1]),([102,115,116],.agg #[.int .i64 9,.slice (some ⟨w6.heap.size,0,none⟩) 1 1]),([108,111,111,112],.agg #[.int .i64 21,.slice none 0 0]),([115,111,117,116,104],.agg #[.int .i64 25,.slice none 0 0]),([110,111,114,116,104],.agg #[.int .i64 24,.slice none 0 0]),([98,97,115,101],.agg #[.int .i64 20,.slice none 0 0]),([83,49],.agg #[.int .i64 19,.slice none 0 0]),([85],.agg #[.int .i64 3,.slice none 0 0])]:=⟨rfl,⟨_,rfl,ht13.grown (Nat.le_refl _) g13.size g13 (fun g e=>by injection e with e;omega)⟩,WdVals.grown (Nat.le_refl _) g13.size g13 (fun g e=>by injection e with e;omega) v13x⟩
 have b14:Below B w w14:=b13x.grown g13 (Nat.le_of_lt s13x) (fun j hj=>by injection hj with hj;omega)
 have s14:B<w14.heap.size:=Nat.lt_of_lt_of_le s13x g13.size
 clear o13 v13 b13 s13 g13 o13x v13x b13x s13x ht13 hal13
 have hal14:=below_alloc w14 (.cells #[.int .i64 1,.int .i64 3,.int .i64 0] 98)
 have ht14:=tk_new (lo:=B) w14 s14 [1,3,0] #[.int .i64 1,.int .i64 3,.int .i64 0] rfl 98
 have o14x:=o14.kept (grown_none hal14) (by simp)
 have v14x:=WdVals.grown (Nat.le_refl _) hal14.size (grown_none hal14) (fun g e=>by cases e) v14
 have s14x:B<(w14.alloc (.cells #[.int .i64 1,.int .i64 3,.int .i64 0] 98)).heap.size:=Nat.lt_of_lt_of_le s14 hal14.size
 have b14x:Below B w (w14.alloc (.cells #[.int .i64 1,.int .i64 3,.int .i64 0] 98)):=b14.trans (hal14.mono (Nat.le_of_lt s14))
 obtain⟨w15,r14,o15,g14⟩:=ins_own o14x (by omega) [116,114,97,110,115,112] (by simp) ⟨#[116,114,97,110,115,112]⟩ rfl (.agg #[.int .i64 14,.slice (some ⟨w14.heap.size,0,none⟩) 3 3])
 have v15:WdVals B w15.heap.size w15 [([116,114,97,110,115,112],14,[1,3,0]),([80,97,116,104],11,[1,0,0]),([71,108,117,101],16,[0,5]),([103,108,117,101],17,[0,6]),([109,101,114,105,100],26,[0]),([117,110,103,108,117,101],18,[0]),([83,117,115,112],23,[0]),([115,110,100],10,[0]),([102,115,116],9,[0]),([108,111,111,112],21,[]),([115,111,117,116,104],25,[]),([110,111,114,116,104],24,[]),([98,97,115,101],20,[]),([83,49],19,[]),([85],3,[])] [([116,114,97,110,115,112],.agg #[.int .i64 14,.slice (some ⟨w14.heap.size,0,none⟩) 3 3]),([80,97,116,104],.agg #[.int .i64 11,.slice (some ⟨w13.heap.size,0,none⟩) 3 3]),([71,108,117,101],.agg #[.int .i64 16,.slice (some ⟨w12.heap.size,0,none⟩) 2 2]),([103,108,117,101],.agg #[.int .i64 17,.slice (some ⟨w11.heap.size,0,none⟩) 2 2]),([109,101,114,105,100],.agg #[.int .i64 26,.slice (some ⟨w10.heap.size,0,none⟩) 1 1]),([117,110,103,108,117,101],.agg #[.int .i64 18,.slice (some ⟨w9.heap.size,0,none⟩) 1 1]),([83,117,115,112],.agg #[.int .i64 23,.slice (some ⟨w8.heap.size,0,none⟩) 1 1]),([115,110,100],.agg #[.int .i64 10,.slice (some ⟨w7.heap.size,0,none⟩) 1 1]),([102,115,116],.agg #[.int .i64 9,.slice (some ⟨w6.heap.size,0,none⟩) 1 1]),([108,111,111,112],.agg #[.int .i64 21,.slice none 0 0]),([115,111,117,116,104],.agg #[.int .i64 25,.slice none 0 0]),([110,111,114,116,104],.agg #[.int .i64 24,.slice none 0 0]),([98,97,115,101],.agg #[.int .i64 20,.slice none 0 0]),([83,49],.agg #[.int .i64 19,.slice none 0 0]),([85],.agg #[.int .i64 3,.slice none 0 0])]:=⟨rfl,⟨_,rfl,ht14.grown (Nat.le_refl _) g14.size g14 (fun g e=>by injection e with e;omega)⟩,WdVals.grown (Nat.le_refl _) g14.size g14 (fun g e=>by injection e with e;omega) v14x⟩
 have b15:Below B w w15:=b14x.grown g14 (Nat.le_of_lt s14x) (fun j hj=>by injection hj with hj;omega)
 have s15:B<w15.heap.size:=Nat.lt_of_lt_of_le s14x g14.size
 clear o14 v14 b14 s14 g14 o14x v14x b14x s14x ht14 hal14
 have hal15:=below_alloc w15 (.cells #[.int .i64 0,.int .i64 4,.int .i64 0] 98)
 have ht15:=tk_new (lo:=B) w15 s15 [0,4,0] #[.int .i64 0,.int .i64 4,.int .i64 0] rfl 98
 have o15x:=o15.kept (grown_none hal15) (by simp)
 have v15x:=WdVals.grown (Nat.le_refl _) hal15.size (grown_none hal15) (fun g e=>by cases e) v15
 have s15x:B<(w15.alloc (.cells #[.int .i64 0,.int .i64 4,.int .i64 0] 98)).heap.size:=Nat.lt_of_lt_of_le s15 hal15.size
 have b15x:Below B w (w15.alloc (.cells #[.int .i64 0,.int .i64 4,.int .i64 0] 98)):=b15.trans (hal15.mono (Nat.le_of_lt s15))
 obtain⟨w16,r15,o16,g15⟩:=ins_own o15x (by omega) [104,99,111,109,112] (by simp) ⟨#[104,99,111,109,112]⟩ rfl (.agg #[.int .i64 15,.slice (some ⟨w15.heap.size,0,none⟩) 3 3])
 have v16:WdVals B w16.heap.size w16 [([104,99,111,109,112],15,[0,4,0]),([116,114,97,110,115,112],14,[1,3,0]),([80,97,116,104],11,[1,0,0]),([71,108,117,101],16,[0,5]),([103,108,117,101],17,[0,6]),([109,101,114,105,100],26,[0]),([117,110,103,108,117,101],18,[0]),([83,117,115,112],23,[0]),([115,110,100],10,[0]),([102,115,116],9,[0]),([108,111,111,112],21,[]),([115,111,117,116,104],25,[]),([110,111,114,116,104],24,[]),([98,97,115,101],20,[]),([83,49],19,[]),([85],3,[])] [([104,99,111,109,112],.agg #[.int .i64 15,.slice (some ⟨w15.heap.size,0,none⟩) 3 3]),([116,114,97,110,115,112],.agg #[.int .i64 14,.slice (some ⟨w14.heap.size,0,none⟩) 3 3]),([80,97,116,104],.agg #[.int .i64 11,.slice (some ⟨w13.heap.size,0,none⟩) 3 3]),([71,108,117,101],.agg #[.int .i64 16,.slice (some ⟨w12.heap.size,0,none⟩) 2 2]),([103,108,117,101],.agg #[.int .i64 17,.slice (some ⟨w11.heap.size,0,none⟩) 2 2]),([109,101,114,105,100],.agg #[.int .i64 26,.slice (some ⟨w10.heap.size,0,none⟩) 1 1]),([117,110,103,108,117,101],.agg #[.int .i64 18,.slice (some ⟨w9.heap.size,0,none⟩) 1 1]),([83,117,115,112],.agg #[.int .i64 23,.slice (some ⟨w8.heap.size,0,none⟩) 1 1]),([115,110,100],.agg #[.int .i64 10,.slice (some ⟨w7.heap.size,0,none⟩) 1 1]),([102,115,116],.agg #[.int .i64 9,.slice (some ⟨w6.heap.size,0,none⟩) 1 1]),([108,111,111,112],.agg #[.int .i64 21,.slice none 0 0]),([115,111,117,116,104],.agg #[.int .i64 25,.slice none 0 0]),([110,111,114,116,104],.agg #[.int .i64 24,.slice none 0 0]),([98,97,115,101],.agg #[.int .i64 20,.slice none 0 0]),([83,49],.agg #[.int .i64 19,.slice none 0 0]),([85],.agg #[.int .i64 3,.slice none 0 0])]:=⟨rfl,⟨_,rfl,ht15.grown (Nat.le_refl _) g15.size g15 (fun g e=>by injection e with e;omega)⟩,WdVals.grown (Nat.le_refl _) g15.size g15 (fun g e=>by injection e with e;omega) v15x⟩
 have b16:Below B w w16:=b15x.grown g15 (Nat.le_of_lt s15x) (fun j hj=>by injection hj with hj;omega)
 have s16:B<w16.heap.size:=Nat.lt_of_lt_of_le s15x g15.size
 clear o15 v15 b15 s15 g15 o15x v15x b15x s15x ht15 hal15
 have hal16:=below_alloc w16 (.cells #[.int .i64 2,.int .i64 0,.int .i64 0,.int .i64 0] 98)
 have ht16:=tk_new (lo:=B) w16 s16 [2,0,0,0] #[.int .i64 2,.int .i64 0,.int .i64 0,.int .i64 0] rfl 98
 have o16x:=o16.kept (grown_none hal16) (by simp)
 have v16x:=WdVals.grown (Nat.le_refl _) hal16.size (grown_none hal16) (fun g e=>by cases e) v16
 have s16x:B<(w16.alloc (.cells #[.int .i64 2,.int .i64 0,.int .i64 0,.int .i64 0] 98)).heap.size:=Nat.lt_of_lt_of_le s16 hal16.size
 have b16x:Below B w (w16.alloc (.cells #[.int .i64 2,.int .i64 0,.int .i64 0,.int .i64 0] 98)):=b16.trans (hal16.mono (Nat.le_of_lt s16))
 obtain⟨w17,r16,o17,g16⟩:=ins_own o16x (by omega) [83,49,101,108,105,109] (by simp) ⟨#[83,49,101,108,105,109]⟩ rfl (.agg #[.int .i64 22,.slice (some ⟨w16.heap.size,0,none⟩) 4 4])
 have v17:WdVals B w17.heap.size w17 [([83,49,101,108,105,109],22,[2,0,0,0]),([104,99,111,109,112],15,[0,4,0]),([116,114,97,110,115,112],14,[1,3,0]),([80,97,116,104],11,[1,0,0]),([71,108,117,101],16,[0,5]),([103,108,117,101],17,[0,6]),([109,101,114,105,100],26,[0]),([117,110,103,108,117,101],18,[0]),([83,117,115,112],23,[0]),([115,110,100],10,[0]),([102,115,116],9,[0]),([108,111,111,112],21,[]),([115,111,117,116,104],25,[]),([110,111,114,116,104],24,[]),([98,97,115,101],20,[]),([83,49],19,[]),([85],3,[])] [([83,49,101,108,105,109],.agg #[.int .i64 22,.slice (some ⟨w16.heap.size,0,none⟩) 4 4]),([104,99,111,109,112],.agg #[.int .i64 15,.slice (some ⟨w15.heap.size,0,none⟩) 3 3]),([116,114,97,110,115,112],.agg #[.int .i64 14,.slice (some ⟨w14.heap.size,0,none⟩) 3 3]),([80,97,116,104],.agg #[.int .i64 11,.slice (some ⟨w13.heap.size,0,none⟩) 3 3]),([71,108,117,101],.agg #[.int .i64 16,.slice (some ⟨w12.heap.size,0,none⟩) 2 2]),([103,108,117,101],.agg #[.int .i64 17,.slice (some ⟨w11.heap.size,0,none⟩) 2 2]),([109,101,114,105,100],.agg #[.int .i64 26,.slice (some ⟨w10.heap.size,0,none⟩) 1 1]),([117,110,103,108,117,101],.agg #[.int .i64 18,.slice (some ⟨w9.heap.size,0,none⟩) 1 1]),([83,117,115,112],.agg #[.int .i64 23,.slice (some ⟨w8.heap.size,0,none⟩) 1 1]),([115,110,100],.agg #[.int .i64 10,.slice (some ⟨w7.heap.size,0,none⟩) 1 1]),([102,115,116],.agg #[.int .i64 9,.slice (some ⟨w6.heap.size,0,none⟩) 1 1]),([108,111,111,112],.agg #[.int .i64 21,.slice none 0 0]),([115,111,117,116,104],.agg #[.int .i64 25,.slice none 0 0]),([110,111,114,116,104],.agg #[.int .i64 24,.slice none 0 0]),([98,97,115,101],.agg #[.int .i64 20,.slice none 0 0]),([83,49],.agg #[.int .i64 19,.slice none 0 0]),([85],.agg #[.int .i64 3,.slice none 0 0])]:=⟨rfl,⟨_,rfl,ht16.grown (Nat.le_refl _) g16.size g16 (fun g e=>by injection e with e;omega)⟩,WdVals.grown (Nat.le_refl _) g16.size g16 (fun g e=>by injection e with e;omega) v16x⟩
 have b17:Below B w w17:=b16x.grown g16 (Nat.le_of_lt s16x) (fun j hj=>by injection hj with hj;omega)
 have s17:B<w17.heap.size:=Nat.lt_of_lt_of_le s16x g16.size
 clear o16 v16 b16 s16 g16 o16x v16x b16x s16x ht16 hal16
 have hal17:=below_alloc w17 (.cells #[.int .i64 2,.int .i64 0,.int .i64 0,.int .i64 0,.int .i64 0] 98)
 have ht17:=tk_new (lo:=B) w17 s17 [2,0,0,0,0] #[.int .i64 2,.int .i64 0,.int .i64 0,.int .i64 0,.int .i64 0] rfl 98
 have o17x:=o17.kept (grown_none hal17) (by simp)
 have v17x:=WdVals.grown (Nat.le_refl _) hal17.size (grown_none hal17) (fun g e=>by cases e) v17
 have s17x:B<(w17.alloc (.cells #[.int .i64 2,.int .i64 0,.int .i64 0,.int .i64 0,.int .i64 0] 98)).heap.size:=Nat.lt_of_lt_of_le s17 hal17.size
 have b17x:Below B w (w17.alloc (.cells #[.int .i64 2,.int .i64 0,.int .i64 0,.int .i64 0,.int .i64 0] 98)):=b17.trans (hal17.mono (Nat.le_of_lt s17))
 obtain⟨w18,r17,o18,g17⟩:=ins_own o17x (by omega) [83,117,115,112,101,108,105,109] (by simp) ⟨#[83,117,115,112,101,108,105,109]⟩ rfl (.agg #[.int .i64 27,.slice (some ⟨w17.heap.size,0,none⟩) 5 5])
 have v18:WdVals B w18.heap.size w18 [([83,117,115,112,101,108,105,109],27,[2,0,0,0,0]),([83,49,101,108,105,109],22,[2,0,0,0]),([104,99,111,109,112],15,[0,4,0]),([116,114,97,110,115,112],14,[1,3,0]),([80,97,116,104],11,[1,0,0]),([71,108,117,101],16,[0,5]),([103,108,117,101],17,[0,6]),([109,101,114,105,100],26,[0]),([117,110,103,108,117,101],18,[0]),([83,117,115,112],23,[0]),([115,110,100],10,[0]),([102,115,116],9,[0]),([108,111,111,112],21,[]),([115,111,117,116,104],25,[]),([110,111,114,116,104],24,[]),([98,97,115,101],20,[]),([83,49],19,[]),([85],3,[])] [([83,117,115,112,101,108,105,109],.agg #[.int .i64 27,.slice (some ⟨w17.heap.size,0,none⟩) 5 5]),([83,49,101,108,105,109],.agg #[.int .i64 22,.slice (some ⟨w16.heap.size,0,none⟩) 4 4]),([104,99,111,109,112],.agg #[.int .i64 15,.slice (some ⟨w15.heap.size,0,none⟩) 3 3]),([116,114,97,110,115,112],.agg #[.int .i64 14,.slice (some ⟨w14.heap.size,0,none⟩) 3 3]),([80,97,116,104],.agg #[.int .i64 11,.slice (some ⟨w13.heap.size,0,none⟩) 3 3]),([71,108,117,101],.agg #[.int .i64 16,.slice (some ⟨w12.heap.size,0,none⟩) 2 2]),([103,108,117,101],.agg #[.int .i64 17,.slice (some ⟨w11.heap.size,0,none⟩) 2 2]),([109,101,114,105,100],.agg #[.int .i64 26,.slice (some ⟨w10.heap.size,0,none⟩) 1 1]),([117,110,103,108,117,101],.agg #[.int .i64 18,.slice (some ⟨w9.heap.size,0,none⟩) 1 1]),([83,117,115,112],.agg #[.int .i64 23,.slice (some ⟨w8.heap.size,0,none⟩) 1 1]),([115,110,100],.agg #[.int .i64 10,.slice (some ⟨w7.heap.size,0,none⟩) 1 1]),([102,115,116],.agg #[.int .i64 9,.slice (some ⟨w6.heap.size,0,none⟩) 1 1]),([108,111,111,112],.agg #[.int .i64 21,.slice none 0 0]),([115,111,117,116,104],.agg #[.int .i64 25,.slice none 0 0]),([110,111,114,116,104],.agg #[.int .i64 24,.slice none 0 0]),([98,97,115,101],.agg #[.int .i64 20,.slice none 0 0]),([83,49],.agg #[.int .i64 19,.slice none 0 0]),([85],.agg #[.int .i64 3,.slice none 0 0])]:=⟨rfl,⟨_,rfl,ht17.grown (Nat.le_refl _) g17.size g17 (fun g e=>by injection e with e;omega)⟩,WdVals.grown (Nat.le_refl _) g17.size g17 (fun g e=>by injection e with e;omega) v17x⟩
 have b18:Below B w w18:=b17x.grown g17 (Nat.le_of_lt s17x) (fun j hj=>by injection hj with hj;omega)
 have s18:B<w18.heap.size:=Nat.lt_of_lt_of_le s17x g17.size
 clear o17 v17 b17 s17 g17 o17x v17x b17x s17x ht17 hal17
 rw [hw0,hB] at r0
 rw [hB] at r1 r2 r3 r4 r5 r6 r7 r8 r9 r10 r11 r12 r13 r14 r15 r16 r17
 obtain⟨Z,hZ⟩:∃ Z,Z=w18:=⟨_,rfl⟩
 have FIN:Hid (WdIn w18 B w18.heap.size∧Below B w w18):=⟨⟨s18,Nat.le_refl _,_,o18,v18⟩,b18⟩
 clear o18 v18 b18 hZ s18
 go_enter Tryz.func20,Tryz.ntmps20
 go_wp2_with fail
 go_ret
 exact⟨by rw [hB];rfl,FIN.out⟩
end Go.Proofs.YtahnbigkdfmpbaaGreatDoor
namespace Go.Proofs.YtahnbigkdfmpbaaGreatDoor
open Go.RowKit Go.Maps Go.WideMaps
def GlIn (w:World) (b n:Nat) (g:List Bs):Prop:=∃ m,w.ownsMap Tryz.prog 9 Rh b n (WdD m)∧(∀ p∈m,p.2=.agg #[])∧∀ s,(findV m s).isSome=decide (s∈g)
theorem GlIn.kn {No:Nat→Prop} {w w':World} {b n:Nat} {g:List Bs} (h:GlIn w b n g) (hk:Kn No w w') (hb:No b):GlIn w' b n g:=by
 obtain⟨m,⟨es,clock,h1,h2⟩,h3⟩:=h
 exact⟨m,⟨es,clock,(hk.block b hb (Array.getElem?_eq_some_iff.1 h1).1).trans h1,h2⟩,h3⟩
theorem findV_mem {m:List (Bs × Value)} {s:Bs} {v:Value} (h:findV m s=some v):∃ p∈m,p.2=v:=by
 induction m with
 | nil=>cases h
 | cons p m ih =>
  unfold findV at h
  by_cases e:p.1=s
  ·rw [if_pos e] at h;injection h with h;exact⟨p,by simp,h⟩
  ·rw [if_neg e] at h;obtain⟨q,hq,e2⟩:=ih h;exact⟨q,by simp [hq],e2⟩
theorem zeroUnit (w:World):(zeroValue 99).run Tryz.prog w=.ok (.agg #[]) w:=by kernel_rfl
set_option maxRecDepth 100000 in
theorem GlIn.look {w:World} {b n:Nat} {g:List Bs} (h:GlIn w b n g) (s:Bs) (hs:s.length≤1000000):(Instr.lookup 73 (.map (some b)) (.string (bs s)) true).run Tryz.prog w=.ok (.tuple #[.agg #[],.bool (decide (s∈g))]) w:=by
 obtain⟨m,⟨es,clock,hb,F,hsz,hD⟩,hu,hv⟩:=h
 have hA:=Maps.fit_look true lawStr Tryz.underlying73 (zeroUnit w) hb F (keyS s hs)
 rw [← hD] at hA
 rw [← hv s]
 rcases hA with ⟨h1,_,h5⟩|⟨e0,y,_,_,h1,hR,h3,_⟩
 ·have e1:=h5 .nil
  rw [wd_at] at e1
  cases hf:findV m s with
  | none=>rw [h1];rfl
  | some v=>rw [hf] at e1;cases e1
 ·have e1:=h3 .nil
  rw [wd_at] at e1
  unfold Rh at hR
  injection hR with hR
  cases hf:findV m s with
  | none=>rw [hf,← hR] at e1;cases e1
  | some v =>
   rw [hf,← hR] at e1
   injection e1 with e1
   obtain⟨p,hp,e2⟩:=findV_mem hf
   rw [h1,← e1,← e2,hu p hp]
   rfl
def RB (w:World) (b g:Nat):Prop:=∃ es clock x,w.heap[b]? = some (.map es clock)∧x∈es.toList∧x.val.ownBlock=some g
structure Rsv where
 r:Nat
 bw:Nat
 bg:Nat
 ng:Nat
 bv:Nat
 bd:Nat
def Rsv.cells (R:Rsv) (v d:Nat):Array Value:=#[.map (some R.bw),.map (some R.bg),.int .i64 (v:Nat),.map (some R.bv),.int .i64 (d:Nat),.map (some R.bd)]
structure Rsv.In (R:Rsv) (w:World) (σ:Sg) (n:Nat):Prop where
 blk:w.heap[R.r]? = some (.cells (R.cells σ.v.length σ.d.length) 80 (0,0))
 wd:WdIn w R.bw R.bv
 gl:GlIn w R.bg R.ng σ.g
 vs:NmMem w R.bv (R.bv+1) n σ.v
 ds:NmMem w R.bd (R.bd+1) n σ.d
 lt:R.bg<R.bv∧R.bv<R.bd∧R.bd<R.r
 apart:w.Shuns R.bv (RB w R.bd)
 few:n≤50000000∧σ.v.length≤50000000∧σ.d.length≤50000000
def Rsv.ptr (R:Rsv):Value:=.pointer (some ⟨R.r,0,none⟩)
structure Rsv.Sh (R:Rsv) (w:World) (No:Nat→Prop):Prop where
 v:w.Shuns R.bv No
 d:w.Shuns R.bd No
 r:¬ No R.r
 bv:¬ No R.bv
 bd:¬ No R.bd
 lt:∀ g,No g→g<w.heap.size
 old:∀ g,g<R.bv→No g
theorem Rsv.In.rlt {R:Rsv} {w:World} {σ:Sg} {n:Nat} (h:R.In w σ n):R.r<w.heap.size:=(Array.getElem?_eq_some_iff.1 h.blk).1
theorem Rsv.In.c {R:Rsv} {w:World} {σ:Sg} {n:Nat} (h:R.In w σ n):w.cell? ⟨R.r,0,none⟩=some (.map (some R.bw))∧w.cell? ⟨R.r,1,none⟩=some (.map (some R.bg))∧w.cell? ⟨R.r,2,none⟩=some (.int .i64 (σ.v.length:Nat))∧w.cell? ⟨R.r,3,none⟩=some (.map (some R.bv))∧w.cell? ⟨R.r,4,none⟩=some (.int .i64 (σ.d.length:Nat))∧w.cell? ⟨R.r,5,none⟩=some (.map (some R.bd)):=by
 have e:=h.blk
 unfold Rsv.cells at e
 refine⟨?_,?_,?_,?_,?_,?_⟩ <;> simp [World.cell?,e]
theorem shuns_of {w w':World} {b:Nat} {No:Nat→Prop} (h:w.Shuns b No) (hb:w'.heap[b]? = w.heap[b]?):w'.Shuns b No:=fun es clock e=>h es clock (hb ▸ e)
theorem Rsv.In.keep {R:Rsv} {w w':World} {σ:Sg} {n:Nat} (h:R.In w σ n) (hb:Below w.heap.size w w'):R.In w' σ n:=by
 have hk:Kn (fun _=>True) w w':=Kn.of_below hb
 have hbd:w'.heap[R.bd]? = w.heap[R.bd]?:=hb.block _ h.ds.lt
 exact⟨(hb.block _ h.rlt).trans h.blk,h.wd.kn hk (fun _ _=>trivial),h.gl.kn hk trivial,h.vs.kn hk trivial (fun _ _ _ _ _ _ _=>trivial),h.ds.kn hk trivial (fun _ _ _ _ _ _ _=>trivial),h.lt,
  fun es clock e x hx g hg hR=>by
   obtain⟨es2,clock2,y,e2,hy,hyg⟩:=hR
   exact h.apart es clock ((hb.block _ h.vs.lt).symm.trans e) x hx g hg ⟨es2,clock2,y,hbd.symm.trans e2,hy,hyg⟩,h.few⟩
theorem Rsv.Sh.keep {R:Rsv} {w w':World} {σ:Sg} {n:Nat} {No:Nat→Prop} (h:R.Sh w No) (hR:R.In w σ n) (hb:Below w.heap.size w w'):R.Sh w' No :=
 ⟨shuns_of h.v (hb.block _ hR.vs.lt),shuns_of h.d (hb.block _ hR.ds.lt),h.r,h.bv,h.bd,fun g hg=>Nat.lt_of_lt_of_le (h.lt g hg) hb.size,h.old⟩
theorem Rsv.Sh.more {R:Rsv} {w w':World} {σ:Sg} {n:Nat} {No ok:Nat→Prop} (h:R.Sh w No) (hR:R.In w σ n) (hb:Below w.heap.size w w') (hok:∀ g,ok g→w.heap.size≤g∧g<w'.heap.size):R.Sh w' (fun g=>No g∨ok g):=by
 have lv:=hR.vs.lt
 have ld:=hR.ds.lt
 have lr:=hR.rlt
 obtain⟨_,ov,_⟩:=hR.vs
 obtain⟨_,od,_⟩:=hR.ds
 refine⟨shuns_of (h.v.reno ov fun g hg=>hg.imp id fun h=>(hok g h).1) (hb.block _ lv),shuns_of (h.d.reno od fun g hg=>hg.imp id fun h=>(hok g h).1) (hb.block _ ld),?_,?_,?_,?_,fun g hg=>.inl (h.old g hg)⟩
 ·rintro (e | e)
  ·exact h.r e
  ·have:=(hok _ e).1;omega
 ·rintro (e | e)
  ·exact h.bv e
  ·have:=(hok _ e).1;omega
 ·rintro (e | e)
  ·exact h.bd e
  ·have:=(hok _ e).1;omega
 ·rintro g (e | e)
  ·exact Nat.lt_of_lt_of_le (h.lt g e) hb.size
  ·exact (hok g e).2
def fltS (p:Int) (x:Nat):PanicEntry:={ v:=.iface 84 (.agg #[.int .i64 p,.int .i64 (x:Nat)]),recovered:=false }
set_option maxRecDepth 100000 in
theorem giveUp_any (n:Nat) (t:Sx) (v:Value) (e:Nat) (w:World) (h:SxIn n w t v):Calls Tryz.prog 50 #[v,.int .i64 (e:Nat)] w fun en w'=>en=.panicked [fltS t.at_ e]∧Below w.heap.size w w':=by
 obtain⟨ka,kc,na,nc,rfl,_,_⟩:=h.form
 obtain⟨x0,x1,x2,x3,x4⟩:=(bx_new w (.int .i64 t.kind) (.string (bs t.name)) (.slice ka t.kids.length kc) (.slice na t.names.length nc) (.int .i64 t.at_)).cells
 have hal:=below_alloc w (.cells #[.int .i64 t.kind,.string (bs t.name),.slice ka t.kids.length kc,.slice na t.names.length nc,.int .i64 t.at_] 26)
 clear h
 go_enter Tryz.func50,Tryz.ntmps50
 go_wp2
 exact⟨rfl,rfl,hal⟩
end Go.Proofs.YtahnbigkdfmpbaaGreatDoor
namespace Go.Proofs.YtahnbigkdfmpbaaGreatDoor
open Go.RowKit Go.Maps Go.WideMaps
set_option maxRecDepth 100000 in
theorem isWord_any (R:Rsv) (σ:Sg) (n:Nat) (s:Bs) (w:World) (h:R.In w σ n) (hs:s.length≤1000000):Calls Tryz.prog 41 #[R.ptr,.string (bs s)] w fun e w'=>e=.returned (.bool (isWd s))∧Below w.heap.size w w':=by
 obtain⟨vt,hvt,hrun⟩:=h.wd.look s hs true
 obtain⟨c0,_⟩:=h.c
 obtain⟨a,rfl,_⟩:=hvt
 simp only [if_true] at hrun
 have hal:=below_alloc w (.cells #[.int .i64 ((wdOf s).1:Nat),.slice a (wdOf s).2.length (wdOf s).2.length] 97)
 unfold Rsv.ptr
 clear h
 generalize isWd s=q at *
 generalize bs s=X at *
 generalize (wdOf s).2.length=L at *
 generalize (wdOf s).1=K at *
 go_enter Tryz.func41,Tryz.ntmps41
 go_wp2
 go_ret
 exact⟨rfl,hal⟩
set_option maxRecDepth 100000 in
set_option maxHeartbeats 1000000 in
theorem hasWord_any (R:Rsv) (σ:Sg) (n m:Nat) (ns:List Bs) (v:Value) (w:World) (h:R.In w σ n) (hN:NmS m w ns v) (hm:m≤w.heap.size) (hb:ns.length≤1000000) (hc:∀ x∈ns,x.length≤1000000) :
  Calls Tryz.prog 23 #[R.ptr,v] w fun e w'=>e=.returned (.bool (ns.any isWd))∧Below w.heap.size w w':=by
 obtain⟨a,cap,rfl⟩:∃ a cap,v=.slice a ns.length cap:=let ⟨a,cap,e,_⟩:=hN;⟨a,cap,e⟩
 obtain⟨L,hL⟩:∃ L,L=ns.length:=⟨_,rfl⟩
 have HL:Hid (L=ns.length):=hL
 rw [← hL] at hN hb ⊢
 clear hL
 have HN:Hid (NmS m w ns (.slice a L cap)):=hN
 clear hN
 obtain⟨r,hr⟩:∃ r,ns.any isWd=r:=⟨_,rfl⟩
 rw [hr]
 have H0:Hid ((ns.drop 0).any isWd=r):=hr
 have HR:Hid (R.In w σ n):=h
 clear hr h
 go_enter Tryz.func23,Tryz.ntmps23
 go_wp2
 go_loopw [9] (fun i wr=>∃ k:Nat,k≤L∧i=.int .i64 k∧Hid ((ns.drop k).any isWd=r)∧Below w.heap.size w wr) (fun i _=>L - (intOf i).toNat)
 case atStart=>exact⟨0,Nat.zero_le _,rfl,H0,Below.refl _ _⟩
 case round =>
  obtain⟨k,hk,rfl,HK,hB⟩:=hrel
  clear H0
  by_cases hlt:k<L
  ·obtain⟨x,hx⟩:=someS (l:=ns) (k:=k) (by rw [← HL.out];exact hlt)
   obtain⟨g,off,rfl,hg,c0⟩:=HN.out.at hx
   have c0':=(hB.cell (p:=⟨g,off+k,none⟩) (by show g<_;omega)).trans c0
   have cN:=isWord_any R σ n x wr (HR.out.keep hB) (hc x (List.mem_of_getElem? hx))
   have HS:Hid ((isWd x || (ns.drop (k+1)).any isWd)=r):=by
    rw [← HK.out]
    obtain⟨hlt2,e⟩:=List.getElem?_eq_some_iff.1 hx
    show _=_
    rw [List.drop_eq_getElem_cons hlt2,e,List.any_cons]
   clear HK c0 hx
   generalize bs x=X at *
   generalize isWd x=q at *
   cases q
   ·go_wp2_with fail
    refine cN.mono ?_
    rintro e w2 ⟨rfl,hw⟩
    go_wp2_with fail
    go_roundw
    case rel=>exact⟨k+1,by omega,by go_num,(by have:=HS.out;simpa using this:(ns.drop (k+1)).any isWd=r),chain hB hw⟩
    case measure=>simp [intOf];omega
   ·go_wp2_with fail
    refine cN.mono ?_
    rintro e w2 ⟨rfl,hw⟩
    go_wp2_with fail
    go_ret
    exact⟨ret_bool (by have:=HS.out;simpa using this),chain hB hw⟩
  ·have hR:Hid (false=r):=by
    have h:=HK.out
    rw [List.drop_of_length_le (by rw [← HL.out];omega)] at h
    exact h
   clear HK
   go_wp2
   go_ret
   exact⟨ret_bool hR.out,hB⟩
set_option maxRecDepth 100000 in
theorem needs_any (k:Nat) (a:Option Addr) (l c:Nat) (w:World):Calls Tryz.prog 74 #[.agg #[.int .i64 (k:Nat),.slice a l c]] w fun e w'=>e=.returned (.bool (decide (k=21∨k=26)))∧Below w.heap.size w w':=by
 have hal:=below_alloc w (.cells #[.int .i64 (k:Nat),.slice a l c] 97)
 by_cases h1:k=21
 ·subst h1
  go_enter Tryz.func74,Tryz.ntmps74
  go_wp2
  go_ret
  exact⟨rfl,hal⟩
 ·by_cases h2:k=26
  ·subst h2
   go_enter Tryz.func74,Tryz.ntmps74
   go_wp2
   go_ret
   exact⟨rfl,hal⟩
  ·have e1:((k:Int) == 21)=false:=by simp;omega
   have e2:((k:Int) == 26)=false:=by simp;omega
   have e3:decide (k=21∨k=26)=false:=by simp [h1,h2]
   rw [e3]
   clear e3
   go_enter Tryz.func74,Tryz.ntmps74
   go_wp2
   go_ret
   exact⟨rfl,hal⟩
theorem TmIn.six {ok:Nat→Prop} {w:World} {t:Tm} {v:Value} (h:TmIn ok w t v):∃ u0 u1 u2 u3 u4 u5,v=.agg #[u0,u1,u2,u3,u4,u5]∧u0.oneCell'=true∧u1.oneCell'=true∧u2.oneCell'=true∧u3.oneCell'=true∧u4.oneCell'=true∧u5.oneCell'=true:=by
 obtain⟨ra,rc,ka,kc,sa,sc,rfl,_⟩:=h.form
 exact⟨_,_,_,_,_,_,rfl,rfl,rfl,rfl,rfl,rfl,rfl⟩
end Go.Proofs.YtahnbigkdfmpbaaGreatDoor
namespace Go.Proofs.YtahnbigkdfmpbaaGreatDoor
open Go.RowKit Go.Maps Go.WideMaps
theorem TmIn.bounded {ok:Nat→Prop} {w:World} {t:Tm} {v:Value} (h:TmIn ok w t v):TmIn (fun g=>ok g∧g<w.heap.size) w t v:=by
 have hc:∀ {l v},ClRow ok w l v→ClRow (fun g=>ok g∧g<w.heap.size) w l v:=by
  rintro l v ⟨a,cap,h1,h2,h3⟩
  exact⟨a,cap,h1,h2,fun j x hx=>let ⟨g,off,a1,a2,a3,a4⟩:=h3 j x hx;⟨g,off,a1,⟨a2,a3⟩,a3,a4⟩⟩
 have hk:∀ {P l v},KdT ok w P l v→KdT (fun g=>ok g∧g<w.heap.size) w P l v:=by
  rintro P l v ⟨a,cap,h1,h2,h3⟩
  exact⟨a,cap,h1,h2,fun j x hx=>let ⟨g,off,u0,u1,u2,u3,u4,u5,a1,a2,a3,a4⟩:=h3 j x hx;⟨g,off,u0,u1,u2,u3,u4,u5,a1,⟨a2,a3⟩,a3,a4⟩⟩
 refine h _ fun k n nm r kids sys vr vk vs h1 h2 h3=>.mk k n nm r kids sys vr vk vs (hc h1) (hk h2) ?_
 obtain⟨a,cap,e1,e2,e3⟩:=h3
 exact⟨a,cap,e1,e2,fun j x hx=>let ⟨g,off,vf,vk,a1,a2,a3,a4,a5,a6⟩:=e3 j x hx;⟨g,off,vf,vk,a1,⟨a2,a3⟩,a3,hc a4,hk a5,a6⟩⟩
def pu6 (w:World) (x:Nat) (v0 v1 v2 v3 v4 v5:Value):World:=(((((w.setCell ⟨x,0,none⟩ v0).setCell ⟨x,1,none⟩ v1).setCell ⟨x,2,none⟩ v2).setCell ⟨x,3,none⟩ v3).setCell ⟨x,4,none⟩ v4).setCell ⟨x,5,none⟩ v5
theorem pu6_block (w:World) (x:Nat) (v0 v1 v2 v3 v4 v5:Value) {k:Nat} (h:k≠x):(pu6 w x v0 v1 v2 v3 v4 v5).heap[k]? = w.heap[k]?:=by
 unfold pu6
 rw [Below.heap_setCell _ _ _ _ h,Below.heap_setCell _ _ _ _ h,Below.heap_setCell _ _ _ _ h,Below.heap_setCell _ _ _ _ h,Below.heap_setCell _ _ _ _ h,Below.heap_setCell _ _ _ _ h]
theorem pu6_size (w:World) (x:Nat) (v0 v1 v2 v3 v4 v5:Value):(pu6 w x v0 v1 v2 v3 v4 v5).heap.size=w.heap.size:=by simp [pu6,World.setCell]
theorem Tx.put {w:World} {x:Nat} {o0 o1 o2 o3 o4 o5:Value} (h:Tx w x o0 o1 o2 o3 o4 o5) (v0 v1 v2 v3 v4 v5:Value):Tx (pu6 w x v0 v1 v2 v3 v4 v5) x v0 v1 v2 v3 v4 v5:=by
 unfold Tx at h ⊢
 simp [pu6,World.setCell,Array.getElem?_modify,h]
theorem TmIn.put6 {ok:Nat→Prop} {w:World} {t:Tm} {v:Value} (h:TmIn ok w t v) {x:Nat} (hx:∀ g,ok g→g≠x) (v0 v1 v2 v3 v4 v5:Value):TmIn ok (pu6 w x v0 v1 v2 v3 v4 v5) t v :=
 h.keep (by rw [pu6_size];exact Nat.le_refl _) (fun _ h=>h) (fun g hg _=>pu6_block w x v0 v1 v2 v3 v4 v5 (hx g hg))
theorem Below.put6 {n:Nat} {w0 w:World} (h:Below n w0 w) {x:Nat} (hx:n≤x) (v0 v1 v2 v3 v4 v5:Value):Below n w0 (pu6 w x v0 v1 v2 v3 v4 v5) :=
 (((((h.setCell (show n≤x from hx) v0).setCell (show n≤x from hx) v1).setCell (show n≤x from hx) v2).setCell (show n≤x from hx) v3).setCell (show n≤x from hx) v4).setCell (show n≤x from hx) v5
theorem inAll_s (k m:Nat) (t:Tm):inAllF k (m+1) t=inAllF k m (tmK k [t]):=rfl
theorem TmIn.k {ok:Nat→Prop} {w W:World} {m b:Nat} {l:List Tm} (k:Nat) (hb:b=w.heap.size) (hm:m=l.length) (hK:KdT (fun g=>ok g∨g=w.heap.size) W (TmIn (fun g=>ok g∨g=w.heap.size) W) l (.slice (some ⟨w.heap.size,0,none⟩) l.length l.length)):TmIn (fun g=>ok g∨g=b) W (tmK k l) (.agg #[.int .i64 (k:Nat),.int .i64 0,.string ⟨#[]⟩,.slice none 0 0,.slice (some ⟨b,0,none⟩) m m,.slice none 0 0]):=by
 subst hb hm
 exact TmIn.mk k 0 [] [] l [] _ _ _ (cl_nil _ _) hK (sy_nil _ _ _)
theorem kt_two {ok:Nat→Prop} {w W:World} {a c:Tm} {u0 u1 u2 u3 u4 u5 v0 v1 v2 v3 v4 v5:Value} (ha:TmIn ok w a (.agg #[u0,u1,u2,u3,u4,u5])) (hc:TmIn ok w c (.agg #[v0,v1,v2,v3,v4,v5])) (hW:W=w.alloc (.cells #[u0,u1,u2,u3,u4,u5,v0,v1,v2,v3,v4,v5] 37)) :
  KdT (fun g=>ok g∨g=w.heap.size) W (TmIn (fun g=>ok g∨g=w.heap.size) W) [a,c] (.slice (some ⟨w.heap.size,0,none⟩) [a,c].length [a,c].length) :=
 kt_new hW fun j x hx=>by
  match j,hx with
  | 0,hx=>simp at hx;subst hx;exact⟨u0,u1,u2,u3,u4,u5,ha,rfl,rfl,rfl,rfl,rfl,rfl⟩
  | 1,hx=>simp at hx;subst hx;exact⟨v0,v1,v2,v3,v4,v5,hc,rfl,rfl,rfl,rfl,rfl,rfl⟩
  | j+2,hx=>simp at hx
theorem kt_one {ok:Nat→Prop} {w W:World} {a:Tm} {u0 u1 u2 u3 u4 u5:Value} (ha:TmIn ok w a (.agg #[u0,u1,u2,u3,u4,u5])) (hW:W=w.alloc (.cells #[u0,u1,u2,u3,u4,u5] 37)) :
  KdT (fun g=>ok g∨g=w.heap.size) W (TmIn (fun g=>ok g∨g=w.heap.size) W) [a] (.slice (some ⟨w.heap.size,0,none⟩) [a].length [a].length) :=
 kt_new hW fun j x hx=>by
  match j,hx with
  | 0,hx=>simp at hx;subst hx;exact⟨u0,u1,u2,u3,u4,u5,ha,rfl,rfl,rfl,rfl,rfl,rfl⟩
  | j+1,hx=>simp at hx
set_option maxRecDepth 100000 in
set_option maxHeartbeats 1000000 in
theorem twoS_any (k:Nat) (a c:Tm) (va vc:Value) (ok:Nat→Prop) (w:World) (ha:TmIn ok w a va) (hc:TmIn ok w c vc):Calls Tryz.prog 49 #[.int .i64 (k:Nat),va,vc] w fun e w'=>∃ v,e=.returned v∧TmIn (fun g=>ok g∨(w.heap.size≤g∧g<w'.heap.size)) w' (tmK k [a,c]) v∧Below w.heap.size w w':=by
 obtain⟨u0,u1,u2,u3,u4,u5,rfl,a0,a1,a2,a3,a4,a5⟩:=ha.six
 obtain⟨v0,v1,v2,v3,v4,v5,rfl,b0,b1,b2,b3,b4,b5⟩:=hc.six
 have Ha:Hid (TmIn ok w a (.agg #[u0,u1,u2,u3,u4,u5])):=ha
 have Hc:Hid (TmIn ok w c (.agg #[v0,v1,v2,v3,v4,v5])):=hc
 clear ha hc
 go_enter Tryz.func49,Tryz.ntmps49
 go_wp2
 have f3:=chain (chain (below_alloc w (.cells #[u0,u1,u2,u3,u4,u5] 37)) (below_alloc _ (.cells #[v0,v1,v2,v3,v4,v5] 37))) (below_alloc _ (.cells #[.int .i64 (k:Nat),.int .i64 0,.string ⟨#[]⟩,.slice none 0 0,.slice (some ⟨w.heap.size+1+1+1,0,none⟩) 2 2,.slice none 0 0] 37))
 have hK:=kt_two (Ha.out.blw f3) (Hc.out.blw f3) rfl
 have hT:=TmIn.k (m:=2) k (show w.heap.size+1+1+1=_ by simp) rfl hK
 refine⟨rfl,.agg #[.int .i64 (k:Nat),.int .i64 0,.string ⟨#[]⟩,.slice none 0 0,.slice (some ⟨w.heap.size+1+1+1,0,none⟩) 2 2,.slice none 0 0],by simp only [results,Tryz.results49];simp [go_sem],_,rfl,hT.up fun g h=>h.imp id fun e=>?_,chain f3 (below_alloc _ _)⟩
 subst e
 simp
 omega
set_option maxRecDepth 100000 in
set_option maxHeartbeats 1000000 in
theorem inAll_any (k m:Nat) (a:Tm) (va:Value) (ok:Nat→Prop) (w:World) (ha:TmIn ok w a va) (hm:m≤1000000):Calls Tryz.prog 45 #[.int .i64 (k:Nat),.int .i64 (m:Nat),va] w fun e w'=>∃ v,e=.returned v∧TmIn (fun g=>ok g∨(w.heap.size≤g∧g<w'.heap.size)) w' (inAllF k m a) v∧Below w.heap.size w w':=by
 obtain⟨u0,u1,u2,u3,u4,u5,rfl,a0,a1,a2,a3,a4,a5⟩:=ha.six
 have Ha:Hid (TmIn ok w a (.agg #[u0,u1,u2,u3,u4,u5])):=ha
 clear ha
 obtain⟨X,hX⟩:∃ X,inAllF k m a=X:=⟨_,rfl⟩
 rw [hX]
 have HX:Hid (inAllF k (m - 0) a=X):=hX
 clear hX
 obtain⟨w1,hw1⟩:∃ w1,w1=(w.alloc (.cells #[u0,u1,u2,u3,u4,u5] 37)).alloc (.cells #[.int .i64 0,.int .i64 0,.string ⟨#[]⟩,.slice none 0 0,.slice none 0 0,.slice none 0 0] 37):=⟨_,rfl⟩
 have hb1:Below w.heap.size w w1:=by rw [hw1];exact chain (below_alloc _ _) (below_alloc _ _)
 have k1:Tx w1 w.heap.size u0 u1 u2 u3 u4 u5:=by rw [hw1];exact (tx_new w _ _ _ _ _ _).blw (below_alloc _ _)
 have k2:Tx w1 (w.heap.size+1) (.int .i64 0) (.int .i64 0) (.string ⟨#[]⟩) (.slice none 0 0) (.slice none 0 0) (.slice none 0 0):=by
  rw [hw1]
  have h:=tx_new (w.alloc (.cells #[u0,u1,u2,u3,u4,u5] 37)) (.int .i64 0) (.int .i64 0) (.string ⟨#[]⟩) (.slice none 0 0) (.slice none 0 0) (.slice none 0 0)
  simpa using h
 have Hw1:Hid (_=_):=hw1
 clear hw1
 go_enter Tryz.func45,Tryz.ntmps45
 go_wp2
 rw [← Hw1.out]
 have hs1:w1.heap.size=w.heap.size+1+1:=by rw [Hw1.out];simp
 clear Hw1
 obtain⟨x,hx⟩:∃ x,x=w.heap.size:=⟨_,rfl⟩
 rw [← hx] at k1 k2 hs1 ⊢
 have Hx:Hid (x=w.heap.size):=hx
 clear hx
 have H0:Hid (TmIn (fun g=>ok g∧g<x∨x+1+1≤g) w1 a (.agg #[u0,u1,u2,u3,u4,u5])):=(Ha.out.bounded.blw hb1).up fun g h=>.inl (by rw [Hx.out];exact h)
 clear Ha
 go_loopw [8] (fun i wr=>∃ (j:Nat) (t:Tm) (y0 y1 y2 y3 y4 y5:Value),j≤m∧i=.int .i64 j∧Hid (inAllF k (m - j) t=X)∧Tx wr x y0 y1 y2 y3 y4 y5∧(y0.oneCell'=true∧y1.oneCell'=true∧y2.oneCell'=true∧y3.oneCell'=true∧y4.oneCell'=true∧y5.oneCell'=true)∧Tx wr (x+1) (.int .i64 0) (.int .i64 0) (.string ⟨#[]⟩) (.slice none 0 0) (.slice none 0 0) (.slice none 0 0)∧Hid (TmIn (fun g=>ok g∧g<x∨x+1+1≤g) wr t (.agg #[y0,y1,y2,y3,y4,y5]))∧Below w.heap.size w wr∧x+1+1≤wr.heap.size) (fun i _=>m - (intOf i).toNat)
 case atStart=>exact⟨0,a,u0,u1,u2,u3,u4,u5,Nat.zero_le _,rfl,HX,k1,⟨a0,a1,a2,a3,a4,a5⟩,k2,H0,hb1,by omega⟩
 case round =>
  obtain⟨j,t,y0,y1,y2,y3,y4,y5,hj,rfl,HK,t1,⟨o0,o1,o2,o3,o4,o5⟩,t2,HT,hB,hsz⟩:=hrel
  clear H0 HX k1 k2 a0 a1 a2 a3 a4 a5
  by_cases hlt:j<m
  ·obtain⟨p0,p1,p2,p3,p4,p5⟩:=t1.cells
   have hal:=below_alloc wr (.cells #[y0,y1,y2,y3,y4,y5] 37)
   have q:=t1.blw hal
   have q0:=q.cold 0
   have q1:=q.cold 1
   have q2:=q.cold 2
   have q3:=q.cold 3
   have q4:=q.cold 4
   have q5:=q.cold 5
   obtain⟨r0,r1,r2,r3,r4,r5⟩:=q.cells
   have hKT:=TmIn.k (m:=1) k rfl rfl (kt_one HT.out rfl)
   have Hq:Hid _:=q
   have HKT:Hid _:=hKT
   have HS:Hid (inAllF k (m - (j+1)) (tmK k [t])=X):=by
    have e:=HK.out
    rw [show m - j=m - (j+1) + 1 by omega,inAll_s] at e
    exact e
   have Ht2:Hid _:=t2.blw hal
   clear q hKT HT HK t2 t1
   go_wp2_with fail
   go_roundw
   case rel =>
    refine⟨j+1,tmK k [t],_,_,_,_,_,_,by omega,by go_num,HS,Tx.put (w:=wr.alloc _) Hq.out _ _ _ _ _ _,⟨rfl,rfl,rfl,rfl,rfl,rfl⟩,?_,?_,?_,?_⟩
    ·exact (pu6_block _ x _ _ _ _ _ _ (by omega)).trans Ht2.out
    ·refine TmIn.put6 (TmIn.up (ok':=fun g=>ok g∧g<x∨x+1+1≤g) HKT.out fun g h=>?_) (fun g h=>?_) _ _ _ _ _ _
     ·rcases h with h|h
      ·exact h
      ·exact .inr (by omega)
     ·rcases h with h|h
      ·omega
      ·omega
    ·exact Below.put6 (chain hB hal) (by rw [Hx.out];exact Nat.le_refl _) _ _ _ _ _ _
    ·show _≤(pu6 _ x _ _ _ _ _ _).heap.size
     rw [pu6_size]
     have:=hal.size
     omega
   case measure=>simp [intOf];omega
  ·obtain rfl:j=m:=by omega
   obtain⟨ra,rc,ka,kc,sa,sc,e,_⟩:=HT.out.form
   simp only [Value.agg.injEq,Array.mk.injEq,List.cons.injEq,and_true] at e
   obtain⟨rfl,rfl,rfl,rfl,rfl,rfl⟩:=e
   have hXt:t=X:=by have:=HK.out;rw [Nat.sub_self] at this;exact this
   subst hXt
   obtain⟨p0,p1,p2,p3,p4,p5⟩:=t1.cells
   obtain⟨r0,r1,r2,r3,r4,r5⟩:=t2.cells
   have q0:=t2.cold 0
   have q1:=t2.cold 1
   have q2:=t2.cold 2
   have q3:=t2.cold 3
   have q4:=t2.cold 4
   have q5:=t2.cold 5
   have Ht2:Hid _:=t2
   clear t2 t1 HK
   have hz:x+1<wr.heap.size:=by omega
   go_wp2_with fail
   refine⟨rfl,.agg #[.int .i64 (t.kind:Nat),.int .i64 (t.n:Nat),.string (bs t.name),.slice ra t.r.length rc,.slice ka t.kids.length kc,.slice sa t.sys.length sc],by simp only [results,Tryz.results45];simp [go_sem, *],_,rfl,?_,Below.put6 hB (by have:=Hx.out;omega) _ _ _ _ _ _⟩
   refine (TmIn.put6 (x:=x+1) ((TmIn.bounded HT.out).up (ok':=fun g=>(ok g∧g<x∨x+1+1≤g)∧g<wr.heap.size) fun g h=>h) (fun g h=>by omega) _ _ _ _ _ _).up fun g h=>?_
   rcases h.1 with h1|h1
   ·exact .inl h1.1
   ·refine .inr ⟨by have:=Hx.out;omega,?_⟩
    show g<(pu6 _ (x+1) _ _ _ _ _ _).heap.size
    rw [pu6_size]
    exact h.2
end Go.Proofs.YtahnbigkdfmpbaaGreatDoor
namespace Go.Proofs.YtahnbigkdfmpbaaGreatDoor
open Go.RowKit Go.Maps Go.WideMaps
theorem makeS (n:Nat) (w:World):(Instr.makeMap 73 (some (.int .i64 (n:Int)))).run Tryz.prog w=.ok (.map (some w.heap.size)) (w.alloc (.map #[] 0)):=by
 simp [Instr.makeMap,underlying,Tryz.underlying73,Result.andThen]
 rfl
theorem makeH (n:Nat) (w:World):(Instr.makeMap 75 (some (.int .i64 (n:Int)))).run Tryz.prog w=.ok (.map (some w.heap.size)) (w.alloc (.map #[] 0)):=by
 simp [Instr.makeMap,underlying,Tryz.underlying75,Result.andThen]
 rfl
def gsV (l:List Bs):List (Bs × Value):=l.reverse.map fun s=>(s,.agg #[])
theorem gs_find (l:List Bs) (s:Bs):(findV (gsV l) s).isSome=decide (s∈l):=by
 have key:∀ m:List Bs,(findV (m.map fun s=>(s,Value.agg #[])) s).isSome=decide (s∈m):=by
  intro m
  induction m with
  | nil=>rfl
  | cons x m ih =>
   show (if x=s then some _ else findV (m.map _) s).isSome=_
   by_cases h:x=s
   ·rw [if_pos h];simp [h]
   ·rw [if_neg h,ih]
    have h2:¬ s=x:=fun e=>h e.symm
    simp [h2]
 unfold gsV
 rw [key]
 simp
set_option maxRecDepth 100000 in
set_option maxHeartbeats 1000000 in
theorem asSet_any (m:Nat) (ns:List Bs) (v:Value) (w:World) (hN:NmS m w ns v) (hm:m≤w.heap.size) (hb:ns.length≤1000000) (hc:∀ x∈ns,x.length≤1000000) :
  Calls Tryz.prog 21 #[v] w fun e w'=>e=.returned (.map (some w.heap.size))∧GlIn w' w.heap.size ns.length ns∧Below w.heap.size w w':=by
 obtain⟨a,cap,rfl⟩:∃ a cap,v=.slice a ns.length cap:=let ⟨a,cap,e,_⟩:=hN;⟨a,cap,e⟩
 obtain⟨L,hL⟩:∃ L,L=ns.length:=⟨_,rfl⟩
 have HL:Hid (L=ns.length):=hL
 rw [← hL] at hN hb ⊢
 have hmk:=makeS L w
 clear hL
 have HN:Hid (NmS m w ns (.slice a L cap)):=hN
 clear hN
 obtain⟨B,hB⟩:∃ B,B=w.heap.size:=⟨_,rfl⟩
 rw [← hB] at hmk hm ⊢
 have o0:(w.alloc (.map #[] 0)).ownsMap Tryz.prog 9 Rh B 0 (WdD (gsV (ns.take 0))):=by rw [hB];exact World.ownsMap_made _ _ _ _
 have b0:Below B w (w.alloc (.map #[] 0)):=by rw [hB];exact (Below.refl _ _).alloc (Nat.le_refl _) _
 have s0:B<(w.alloc (.map #[] 0)).heap.size:=by rw [hB];simp
 obtain⟨w0,hw0⟩:∃ w0,w0=w.alloc (.map #[] 0):=⟨_,rfl⟩
 rw [← hw0] at o0 b0 s0 hmk
 have HB:Hid (B=w.heap.size):=hB
 clear hB hw0
 go_enter Tryz.func21,Tryz.ntmps21
 go_wp2_with fail
 go_loopw [11] (fun i wr=>∃ k:Nat,k≤L∧i=.int .i64 k∧wr.ownsMap Tryz.prog 9 Rh B k (WdD (gsV (ns.take k)))∧Below B w wr∧B<wr.heap.size) (fun i _=>L - (intOf i).toNat)
 case atStart=>exact⟨0,Nat.zero_le _,rfl,o0,b0,s0⟩
 case round =>
  obtain⟨k,hk,rfl,ho,hBb,hs⟩:=hrel
  clear o0 b0 s0 hmk
  by_cases hlt:k<L
  ·obtain⟨x,hx⟩:=someS (l:=ns) (k:=k) (by rw [← HL.out];exact hlt)
   obtain⟨g,off,rfl,hg,c0⟩:=HN.out.at hx
   have c0':=(hBb.cell (p:=⟨g,off+k,none⟩) (by show g<_;omega)).trans c0
   obtain⟨w1,hrun,o1,g1⟩:=ho.update lawStr Tryz.underlying73 (show k<maxLen by unfold maxLen;omega) (keyS x (hc x (List.mem_of_getElem? hx))) (show Rh (.agg #[])=some (.held (.agg #[]),[]) from rfl)
   have O1:Hid (w1.ownsMap Tryz.prog 9 Rh B (k+1) (WdD (gsV (ns.take (k+1))))):=by
    obtain⟨hlt2,e⟩:=List.getElem?_eq_some_iff.1 hx
    show World.ownsMap _ _ _ _ _ _ _
    rw [List.take_succ_eq_append_getElem hlt2,e]
    unfold gsV
    rw [List.reverse_append]
    exact o1
   clear o1 ho c0 hx
   generalize bs x=X at *
   go_wp2_with fail
   go_roundw
   case rel=>exact⟨k+1,by omega,by go_num,O1.out,hBb.grown g1 (Nat.le_of_lt hs) (fun j hj=>by injection hj with hj;omega),Nat.lt_of_lt_of_le hs g1.size⟩
   case measure=>simp [intOf];omega
  ·obtain rfl:k=L:=by omega
   go_wp2_with fail
   go_ret
   refine⟨rfl,⟨_,ho,?_,fun s=>?_⟩,hBb⟩
   ·intro p hp
    unfold gsV at hp
    obtain⟨s,_,rfl⟩:=List.mem_map.1 hp
    rfl
   ·rw [gs_find,List.take_of_length_le (by rw [← HL.out];exact Nat.le_refl _)]
end Go.Proofs.YtahnbigkdfmpbaaGreatDoor
