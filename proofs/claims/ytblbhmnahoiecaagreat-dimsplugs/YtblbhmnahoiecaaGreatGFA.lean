/- What the small functions of the layer mask, and those of the document's answer that call few others, hand back; they leave the world as it is. What mask.Right and the document's power, Right and Has hand back; they leave the world as it is. What the small functions of the layer clause hand back; each lays blocks of its own at most. Cmp: -1, 0 or 1 by the order; blocks of its own are laid at most. Rows of clauses in memory: owned, and read. The document's answer: Same tells whether two rows are alike; nothing that lay before the call turns. belowOne: is a clause below one of a row? Nothing that lay before the call turns. The library's sort, by Cmp, of a row that is owned: the same clauses, rising. ordered: each clause of a row once, rising, in new memory. Least: those of a row that are needed, in new memory; or why that is not told. Nothing that lay before the call turns. The chapter's examples hold at the code: works() returns true; nothing that lay before the call turns. Clauses in boxes, and the contracts of the small functions as they are met in a statement whose order is left open. The walk of the law ClauseCovers: the call returns true; nothing that lay before it turns. The document's answer: needed tells whether a clause is below no other one of a row; nothing that lay before the call turns. The document's answer: Least. Nothing that lay before the call turns. -/
import Derived.WalkKit
import Derived.Test.YtblbhmnahoiecaaGreatProg
import Derived.Test.YtblbhmnahoiecaaGreatGMA
import Derived.Sort.Grow
import Derived.Deep.Draws
import Derived.Deep.RegionHeld3
import Derived.Lib.QuietBelow
import Derived.Laws.OwnMore
import Derived.OwnWalk
import Derived.Deep.Onto
import Derived.Deep.QuietTactic
import Derived.BigQuiet
import Derived.WalkSmall
import Derived.Lib.SliceRun
import Derived.Test.YtblbhmnahoiecaaGreatCLay
import Derived.Maps.OwnSet
import Derived.Maps.AppendAt
import Derived.DeepKeys4
import Derived.WideKeyPair
import Derived.Deep.AppendLies
set_option linter.unusedVariables false
set_option linter.unusedSimpArgs false
set_option maxRecDepth 100000
set_option maxHeartbeats 1000000
namespace Go.Proofs.YtblbhmnahoiecaaGreat
open Go.RowKit
open Go.RowKit Go.Sort
open Go.RowKit Go.Shelf
open Go.RowKit Go.Shelf Go.Sort
open Go.RowKit Go.Maps
theorem ret_bool {a b:Bool} (h:a=b):Ending.returned (.bool a)=.returned (.bool b):=by rw [h]
theorem ret_int {k:IntKind} {a b:Int} (h:a=b):Ending.returned (.int k a)=.returned (.int k b):=by rw [h]
theorem right_bits (s:Nat) (hs:s<4294967296):(bits BinOp.andNot IntKind.u32 (s:Int) 16777215 == 0)=rightB s:=by
 have h:=bits_andNot32 s 16777215
 have h':bits BinOp.andNot IntKind.u32 (s:Int) 16777215=((andNot32 s 16777215:Nat):Int):=h
 rw [h',rightB,Bool.eq_iff_iff]
 simp only [beq_iff_eq,decide_eq_true_eq]
 have e:(16777215:Nat)=2 ^ 24 - 1:=by decide
 constructor
 ·intro hz
  have hz':andNot32 s 16777215=0:=by omega
  exact Nat.lt_pow_two_of_testBit (n:=24) _ (fun k hk=>by
   have:=testBit_andNot32 s 16777215 k hs
   rw [hz',Nat.zero_testBit,e,Nat.testBit_two_pow_sub_one] at this
   have hk':¬ k<24:=by omega
   simp [hk'] at this
   exact this)
 ·intro hlt
  have:andNot32 s 16777215=0:=by
   apply Nat.eq_of_testBit_eq
   intro k
   rw [testBit_andNot32 s 16777215 k hs,Nat.zero_testBit,e,Nat.testBit_two_pow_sub_one]
   by_cases hk:k<24
   ·simp [hk]
   ·have hp:2 ^ 24≤2 ^ k:=Nat.pow_le_pow_right (by decide) (by omega)
    have:s.testBit k=false:=Nat.testBit_lt_two_pow (Nat.lt_of_lt_of_le hlt hp)
    simp [this]
  omega
theorem right_any (s:Nat) (w:World) (hs:s<4294967296) :
  Calls Tryz.prog 188 #[.int .u32 s] w fun e w'=>e=.returned (.bool (rightB s))∧w'=w:=by
 have H:Hid ((bits BinOp.andNot IntKind.u32 (s:Int) 16777215 == 0)=rightB s):=right_bits s hs
 go_enter Tryz.func188,Tryz.ntmps188
 go_wp2
 go_ret
 exact⟨ret_bool H.out,rfl⟩
def Grew (w w':World):Prop:=∃ q os,w'=grow (w.drewN q) os
theorem Grew.refl (w:World):Grew w w:=⟨0,#[],by rw [grow_empty];rfl⟩
theorem Grew.alloc {w w':World} (h:Grew w w') (o:Obj):Grew w (w'.alloc o):=by
 obtain⟨q,os,rfl⟩:=h
 exact⟨q,os ++ #[o],by rw [alloc_eq_grow,grow_grow]⟩
theorem Grew.below {w w':World} (h:Grew w w'):Below w.heap.size w w':=by
 obtain⟨q,os,rfl⟩:=h
 exact⟨rfl,rfl,rfl,by simp [grow],fun k hk=>by simp [grow,Array.getElem?_append,hk]⟩
theorem Grew.trans {a b c:World} (h1:Grew a b) (h2:Grew b c):Grew a c:=by
 obtain⟨q,os,rfl⟩:=h1
 obtain⟨r,os',rfl⟩:=h2
 exact⟨q+r,os++os',by show grow (grow ((a.drewN q).drewN r) os) os'=_;rw [grow_grow,World.drewN_drewN]⟩
theorem Grew.drew {a b:World} (h1:Grew a b):Grew a b.drew:=h1.trans ⟨1,#[],by rw [grow_empty];rfl⟩
theorem cright_nat (p n:Nat) (w:World) (hp:p<4294967296) (hn:n<4294967296) :
  Calls Tryz.prog 150 #[.agg #[.int .u32 p,.int .u32 n]] w fun e w'=>e=.returned (.bool (rightB p && rightB n))∧Grew w w':=by
 cases h:rightB p
 all_goals
  go_enter Tryz.func150,Tryz.ntmps150
  go_wp2_with (go_at_call 188;refine (right_any _ _ (by assumption)).mono ?_;rintro e w' ⟨rfl,rfl⟩;try rw [h])
  go_ret
  exact⟨rfl,(Grew.refl w).alloc _⟩
abbrev clV (c:C):Value:=.agg #[.int .u32 (c.1.val:Int),.int .u32 (c.2.val:Int)]
theorem cright_any (c:C) (w:World):Calls Tryz.prog 150 #[clV c] w fun e w'=>e=.returned (.bool (rightC c))∧Grew w w' :=
 cright_nat c.1.val c.2.val w c.1.isLt c.2.isLt
theorem low32 (s:Nat) (hs:s<4294967296):bits BinOp.and IntKind.u32 (s:Int) 16777215=((s &&& 16777215:Nat):Int):=bits_and32 s 16777215 hs (by decide)
theorem and_lt32 {a b:Nat} (ha:a<4294967296):a &&& b<4294967296:=Nat.lt_of_le_of_lt Nat.and_le_left ha
theorem or_lt32 {a b:Nat} (ha:a<4294967296) (hb:b<4294967296):a ||| b<4294967296:=Nat.or_lt_two_pow (n:=32) ha hb
theorem clash_bits (p n:Nat) (hp:p<4294967296) (hn:n<4294967296):(bits BinOp.and IntKind.u32 (bits BinOp.and IntKind.u32 (p:Int) (n:Int)) 16777215 != 0)=decide (p &&& n &&& 16777215≠0):=by
 rw [bits_and32 p n hp hn,low32 _ (and_lt32 hp),Bool.eq_iff_iff]
 simp
theorem clash_nat (p n:Nat) (w:World) (hp:p<4294967296) (hn:n<4294967296) :
  Calls Tryz.prog 144 #[.agg #[.int .u32 p,.int .u32 n]] w fun e w'=>e=.returned (.bool (decide (p &&& n &&& 16777215≠0)))∧Grew w w':=by
 have H:Hid ((bits BinOp.and IntKind.u32 (bits BinOp.and IntKind.u32 (p:Int) (n:Int)) 16777215 != 0)=decide (p &&& n &&& 16777215≠0)):=clash_bits p n hp hn
 go_enter Tryz.func144,Tryz.ntmps144
 go_wp2
 go_ret
 exact⟨ret_bool H.out,(Grew.refl w).alloc _⟩
theorem clash_any (c:C) (w:World):Calls Tryz.prog 144 #[clV c] w fun e w'=>e=.returned (.bool (clashC c))∧Grew w w' :=
 clash_nat c.1.val c.2.val w c.1.isLt c.2.isLt
theorem or_low (a b:Nat) (ha:a<4294967296) (hb:b<4294967296):bits BinOp.and IntKind.u32 (bits BinOp.or IntKind.u32 (a:Int) (b:Int)) 16777215=(((a ||| b) &&& 16777215:Nat):Int):=by
 rw [bits_or32 a b ha hb,low32 _ (or_lt32 ha hb)]
theorem sub_bits (y x:Nat) (hy:y<4294967296):(bits BinOp.and IntKind.u32 (bits BinOp.andNot IntKind.u32 (y:Int) (x:Int)) 16777215 == 0)=sub24 y x:=by
 rw [bits_andNot32,low32 _ (andNot32_lt _ _),Bool.eq_iff_iff,sub24]
 simp
theorem bel_nat (p n q m:Nat) (w:World) (hq:q<4294967296) (hm:m<4294967296) :
  Calls Tryz.prog 192 #[.agg #[.int .u32 p,.int .u32 n],.agg #[.int .u32 q,.int .u32 m]] w fun e w'=>e=.returned (.bool (sub24 q p && sub24 m n))∧Grew w w':=by
 have h1:=sub_bits q p hq
 have h2:=sub_bits m n hm
 cases h:sub24 q p
 all_goals
  rw [h] at h1
  go_enter Tryz.func192,Tryz.ntmps192
  go_wp2
  go_ret
  exact⟨by simp [h2],((Grew.refl w).alloc _).alloc _⟩
theorem bel_any (a b:C) (w:World):Calls Tryz.prog 192 #[clV a,clV b] w fun e w'=>e=.returned (.bool (belC a b))∧Grew w w' :=
 bel_nat a.1.val a.2.val b.1.val b.2.val w b.1.isLt b.2.isLt
theorem compare_any (x y:Nat) (w:World) :
  Calls Tryz.prog 190 #[.int .u32 x,.int .u32 y] w fun e w'=>e=.returned (.int .i64 (cmpN x y))∧w'=w:=by
 rcases cmpN_cases x y with ⟨h,e⟩|⟨h,e⟩|⟨h,e⟩
 ·rw [e]
  clear e
  go_enter Tryz.func190,Tryz.ntmps190
  go_wp2
  go_ret
  exact⟨rfl,rfl⟩
 ·rw [e]
  clear e
  have h':¬ x<y:=by omega
  go_enter Tryz.func190,Tryz.ntmps190
  go_wp2
  go_ret
  exact⟨rfl,rfl⟩
 ·rw [e]
  clear e
  subst h
  go_enter Tryz.func190,Tryz.ntmps190
  go_wp2
  go_ret
  exact⟨rfl,rfl⟩
def orI (x y:Int):Int:=if x≠0 then x else y
theorem or_any (x y:Int) (g:Nat) (w:World) (h0:w.cell? ⟨g,0,none⟩=some (.int .i64 x)) (h1:w.cell? ⟨g,1,none⟩=some (.int .i64 y)) :
  Calls Tryz.prog 189 #[.slice (some ⟨g,0,none⟩) 2 2] w fun e w'=>e=.returned (.int .i64 (orI x y))∧w'=w:=by
 go_enter Tryz.func189,Tryz.ntmps189
 go_wp2
 go_loop [8] (fun i=>∃ k:Nat,k≤2∧i=.int .i64 k∧(1≤k→x=0)∧(2≤k→y=0)) (fun i=>2 - (intOf i).toNat)
 case atStart=>exact⟨0,by omega,rfl,fun h=>absurd h (by omega),fun h=>absurd h (by omega)⟩
 case round =>
  obtain⟨k,hk,rfl,hx,hy⟩:=hrel
  match k,hk,hx,hy with
  | 0,_,_,_ =>
   by_cases e:x=0
   ·subst e
    go_wp2
    go_round
    case rel=>exact⟨1,by omega,by go_num,by simp,fun h=>absurd h (by omega)⟩
    case measure=>simp [intOf]
   ·go_wp2
    go_ret
    exact⟨ret_int (by simp [orI,e]),rfl⟩
  | 1,_,hx,_ =>
   have hx:=hx (by omega)
   subst hx
   by_cases e:y=0
   ·subst e
    go_wp2
    go_round
    case rel=>exact⟨2,by omega,by go_num,by simp,by simp⟩
    case measure=>simp [intOf]
   ·go_wp2
    go_ret
    exact⟨ret_int (by simp [orI]),rfl⟩
  | 2,_,hx,hy =>
   have hx:=hx (by omega)
   have hy:=hy (by omega)
   subst hx hy
   go_wp2
   go_ret
   exact⟨ret_int (by simp [orI]),rfl⟩
theorem cmp_nat (p n q m:Nat) (w:World) :
  Calls Tryz.prog 151 #[.agg #[.int .u32 p,.int .u32 n],.agg #[.int .u32 q,.int .u32 m]] w fun e w'=>e=.returned (.int .i64 (orI (cmpN p q) (cmpN n m)))∧Grew w w':=by
 go_enter Tryz.func151,Tryz.ntmps151
 go_wp2
 go_region_held3 (fun w'=>w'.cell? ⟨w.heap.size,0,none⟩=some (.int .u32 p)∧w'.cell? ⟨w.heap.size,1,none⟩=some (.int .u32 n)∧w'.cell? ⟨w.heap.size+1,0,none⟩=some (.int .u32 q)∧w'.cell? ⟨w.heap.size+1,1,none⟩=some (.int .u32 m)) (go_keep)
  (first
   | (go_at_call 190;refine (compare_any _ _ _).mono ?_;rintro e w' ⟨rfl,rfl⟩)
   | (go_at_call 189;refine (or_any (cmpN p q) (cmpN n m) _ _ (by simp [go_sem]) (by simp [go_sem])).mono ?_;rintro e w' ⟨rfl,rfl⟩))
 go_wp2
 go_ret
 exact⟨rfl,((((Grew.refl w).alloc _).alloc _).alloc _).drew⟩
theorem cmp_any (a b:C) (w:World):Calls Tryz.prog 151 #[clV a,clV b] w fun e w'=>e=.returned (.int .i64 (cmpC a b))∧Grew w w' :=
 cmp_nat a.1.val a.2.val b.1.val b.2.val w
theorem Tryz.infoC:(Tryz.prog.info? 38).map (fun i=>(i.zero,i.size,i.bytes))=some (some (.agg #[.int .u32 0,.int .u32 0]),2,8):=by kernel_rfl
def encC (c:C):List Value:=[.int .u32 (c.1.val:Int),.int .u32 (c.2.val:Int)]
def flat (l:List C):List Value:=l.flatMap encC
theorem flat_append (l m:List C):flat (l++m)=flat l++flat m:=by simp [flat]
theorem flat_one (c:C):flat [c]=encC c:=by simp [flat]
theorem flat_length (l:List C):(flat l).length=l.length*2:=by
 induction l with
 | nil=>rfl
 | cons c l ih =>
  have e:flat (c :: l)=encC c++flat l:=rfl
  rw [e,List.length_append,ih]
  simp [encC]
  omega
theorem flat_get0 (l:List C) (j:Nat):(flat l)[j*2]? = l[j]?.map (fun c=>.int .u32 (c.1.val:Int)):=by
 induction l generalizing j with
 | nil=>simp [flat]
 | cons c l ih =>
  have e:flat (c :: l)=.int .u32 (c.1.val:Int) :: .int .u32 (c.2.val:Int) :: flat l:=rfl
  rw [e]
  cases j with
  | zero=>rfl
  | succ j =>
   have e2:(j+1) * 2=j*2+1+1:=by omega
   rw [e2,List.getElem?_cons_succ,List.getElem?_cons_succ,ih,List.getElem?_cons_succ]
theorem flat_get1 (l:List C) (j:Nat):(flat l)[j*2+1]? = l[j]?.map (fun c=>.int .u32 (c.2.val:Int)):=by
 induction l generalizing j with
 | nil=>simp [flat]
 | cons c l ih =>
  have e:flat (c :: l)=.int .u32 (c.1.val:Int) :: .int .u32 (c.2.val:Int) :: flat l:=rfl
  rw [e]
  cases j with
  | zero=>rfl
  | succ j =>
   have e2:(j+1) * 2+1=j*2+1+1+1:=by omega
   rw [e2,List.getElem?_cons_succ,List.getElem?_cons_succ,ih,List.getElem?_cons_succ]
theorem flat_oneCell (l:List C):∀ u∈flat l,u.oneCell'=true:=by
 intro u hu
 obtain⟨c,_,hc⟩:=List.mem_flatMap.1 hu
 simp [encC] at hc
 rcases hc with rfl|rfl <;> rfl
def OwnsC (w:World) (base:Nat) (v:Value) (l:List C):Prop:=w.ownsRow base 38 2 v l.length (flat l)
def CellsC (w:World) (g off:Nat) (l:List C):Prop :=
 ∀ j c,l[j]? = some c→w.cell? ⟨g,off+j*2,none⟩=some (.int .u32 (c.1.val:Int))∧w.cell? ⟨g,off+j*2+1,none⟩=some (.int .u32 (c.2.val:Int))
def CRow (w:World) (v:Value) (l:List C):Prop :=
 (∃ a cap,v=.slice a 0 cap∧l=[])∨∃ g off cap,v=.slice (some ⟨g,off,none⟩) l.length cap∧g<w.heap.size∧CellsC w g off l
theorem CellsC.below {w w':World} {B g off:Nat} {l:List C} (h:CellsC w g off l) (hb:Below B w w') (hg:g<B):CellsC w' g off l :=
 fun j c hj=>⟨(hb.cell (p:=⟨g,off+j*2,none⟩) hg).trans (h j c hj).1,(hb.cell (p:=⟨g,off+j*2+1,none⟩) hg).trans (h j c hj).2⟩
theorem OwnsC.cells {w:World} {base g cap:Nat} {l:List C} (h:OwnsC w base (.slice (some ⟨g,0,none⟩) l.length cap) l):CellsC w g 0 l:=by
 intro j c hj
 have hlt:j<l.length:=by
  rcases Nat.lt_or_ge j l.length with h1|h1
  ·exact h1
  ·rw [List.getElem?_eq_none h1] at hj;exact absurd hj (by simp)
 have e1:=World.ownsRow.cellAt h (j*2) (by omega)
 have e2:=World.ownsRow.cellAt h (j*2+1) (by omega)
 rw [flat_get0,hj] at e1
 rw [flat_get1,hj] at e2
 rw [Nat.zero_add]
 exact⟨e1,e2⟩
theorem OwnsC.form {w:World} {base:Nat} {v:Value} {l:List C} (h:OwnsC w base v l):(v=.slice none 0 0∧l=[])∨∃ g cap,v=.slice (some ⟨g,0,none⟩) l.length cap∧base≤g∧g<w.heap.size∧CellsC w g 0 l:=by
 have h0:=h
 obtain⟨h1,h2 | ⟨g,cap,cur,rfl,hg,hh,hn,hc,hs,ht⟩⟩:=h
 ·exact .inl ⟨h2.1,List.length_eq_zero_iff.1 h2.2⟩
 ·exact .inr ⟨g,cap,rfl,hg,(World.ownsRow.lt h0 g rfl).2,OwnsC.cells h0⟩
theorem OwnsC.row {w:World} {base:Nat} {v:Value} {l:List C} (h:OwnsC w base v l):CRow w v l:=by
 rcases h.form with ⟨rfl,rfl⟩|⟨g,cap,rfl,hb,hg,hc⟩
 ·exact .inl ⟨_,_,rfl,rfl⟩
 ·exact .inr ⟨g,0,cap,rfl,hg,hc⟩
theorem CRow.below {w w':World} {v:Value} {l:List C} (h:CRow w v l) (hb:Below w.heap.size w w'):CRow w' v l:=by
 rcases h with h|⟨g,off,cap,rfl,hg,hc⟩
 ·exact .inl h
 ·exact .inr ⟨g,off,cap,rfl,Nat.lt_of_lt_of_le hg hb.size,hc.below hb hg⟩
theorem chain {a b c:World} (h1:Below a.heap.size a b) (h2:Below b.heap.size b c):Below a.heap.size a c:=h1.trans (h2.mono h1.size)
theorem below_alloc (w:World) (o:Obj):Below w.heap.size w (w.alloc o):=(Below.refl _ _).alloc (Nat.le_refl _) _
theorem OwnsC.mono {w:World} {base base':Nat} {v:Value} {l:List C} (h:OwnsC w base v l) (hb:base'≤base):OwnsC w base' v l:=World.ownsRow.mono h hb
theorem CRow.len {w:World} {v:Value} {l:List C} (h:CRow w v l):∃ a cap,v=.slice a l.length cap:=by
 rcases h with ⟨a,cap,rfl,rfl⟩|⟨g,off,cap,rfl,_,_⟩
 ·exact⟨_,_,rfl⟩
 ·exact⟨_,_,rfl⟩
theorem CRow.cons {w:World} {v:Value} {l:List C} (h:CRow w v l) (hl:l≠[]):∃ g off cap,v=.slice (some ⟨g,off,none⟩) l.length cap∧g<w.heap.size∧CellsC w g off l:=by
 rcases h with ⟨a,cap,rfl,rfl⟩|h
 ·exact absurd rfl hl
 ·exact h
theorem get_some {α:Type} {l:List α} {k:Nat} (h:k<l.length):∃ c,l[k]? = some c:=⟨l[k],List.getElem?_eq_getElem h⟩
theorem take_eq_step {l m:List C} {k:Nat} {c d:C} (h:l.take k=m.take k) (h1:l[k]? = some c) (h2:m[k]? = some d) (e:c=d):l.take (k+1)=m.take (k+1):=by
 rw [List.take_add_one,List.take_add_one,h,h1,h2,e]
theorem same_any (l m:List C) (a b:Value) (w:World) (ha:CRow w a l) (hb:CRow w b m) (hl:l.length≤100000) :
  Calls Tryz.prog 38 #[a,b] w fun e w'=>e=.returned (.bool (decide (l=m)))∧Below w.heap.size w w':=by
 by_cases hlen:l.length=m.length
 ·by_cases hz:l=[]
  ·subst hz
   have hm:m=[]:=List.length_eq_zero_iff.1 hlen.symm
   subst hm
   obtain⟨p,c,rfl⟩:=ha.len
   obtain⟨q,d,rfl⟩:=hb.len
   clear ha hb
   go_enter Tryz.func38,Tryz.ntmps38
   go_wp2
   go_loop [5] (fun i=>i=.int .i64 0) (fun _=>0)
   case atStart=>rfl
   case round =>
    subst hrel
    go_wp2
    go_ret
    exact⟨rfl,Below.refl _ _⟩
  ·have hzm:m≠[]:=by rintro rfl;exact hz (List.length_eq_zero_iff.1 hlen)
   obtain⟨g,off,cap,rfl,hg,hc⟩:=ha.cons hz
   obtain⟨g2,off2,cap2,rfl,hg2,hc2⟩:=hb.cons hzm
   clear ha hb
   rw [← hlen]
   obtain⟨n,hn⟩:∃ n,n=l.length:=⟨_,rfl⟩
   have Hn:Hid (n=l.length):=hn
   have Hm:Hid (n=m.length):=hn.trans hlen
   rw [← hn] at hl ⊢
   clear hn hlen
   go_enter Tryz.func38,Tryz.ntmps38
   go_wp2
   go_loopw [5] (fun i wr=>∃ k:Nat,k≤n∧i=.int .i64 k∧l.take k=m.take k∧Below w.heap.size w wr) (fun i _=>n - (intOf i).toNat)
   case atStart=>exact⟨0,by omega,rfl,rfl,Below.refl _ _⟩
   case round =>
    obtain⟨k,hk,rfl,htk,hB⟩:=hrel
    have HT:Hid (l.take k=m.take k):=htk
    clear htk
    by_cases hlt:k<n
    ·obtain⟨c,h1⟩:=get_some (l:=l) (k:=k) (by rw [← Hn.out];exact hlt)
     obtain⟨d,h2⟩:=get_some (l:=m) (k:=k) (by rw [← Hm.out];exact hlt)
     have x1:=(hc.below hB hg) k c h1
     have x2:=(hc2.below hB hg2) k d h2
     obtain⟨x1,x1'⟩:=x1
     obtain⟨x2,x2'⟩:=x2
     have H1:Hid (l[k]? = some c):=h1
     have H2:Hid (m[k]? = some d):=h2
     clear h1 h2 hc hc2
     by_cases e1:c.1.val=d.1.val
     ·by_cases e2:c.2.val=d.2.val
      ·go_wp2
       go_quiet (fail)
       go_wp2
       go_roundw
       case rel=>exact⟨k+1,by omega,by go_num,take_eq_step HT.out H1.out H2.out (c_ext e1 e2),below_drewN hB _⟩
       case measure=>simp [intOf];omega
      ·have HN:Hid (l≠m):=fun h=>by
        have:=H2.out
        rw [← h,H1.out] at this
        exact e2 (by rw [Option.some.inj this])
       go_wp2
       go_quiet (fail)
       go_wp2
       go_ret
       exact⟨ret_bool (by simp [HN.out]),below_drewN hB _⟩
     ·have HN:Hid (l≠m):=fun h=>by
       have:=H2.out
       rw [← h,H1.out] at this
       exact e1 (by rw [Option.some.inj this])
      go_wp2
      go_quiet (fail)
      go_wp2
      go_ret
      exact⟨ret_bool (by simp [HN.out]),below_drewN hB _⟩
    ·obtain rfl:k=n:=by omega
     have HE:Hid (l=m):=by
      have h:=HT.out
      rwa [List.take_of_length_le (by rw [← Hn.out];exact Nat.le_refl _),List.take_of_length_le (by rw [← Hm.out];exact Nat.le_refl _)] at h
     go_wp2
     go_ret
     exact⟨ret_bool (by simp [HE.out]),hB⟩
 ·obtain⟨p,c,rfl⟩:=ha.len
  obtain⟨q,d,rfl⟩:=hb.len
  clear ha hb
  have h:l≠m:=by rintro rfl;exact hlen rfl
  go_enter Tryz.func38,Tryz.ntmps38
  go_wp2
  go_ret
  exact⟨by simp [h],Below.refl _ _⟩
theorem index_none (a:Option Addr) (cap:Nat) (f:Value) (w:World) :
  Calls Tryz.prog 187 #[.slice a 0 cap,f] w fun e w'=>e=.returned (.int .i64 (-1))∧w'=w:=by
 go_enter Tryz.func187,Tryz.ntmps187
 go_wp2
 go_loop [8] (fun i=>i=.int .i64 0) (fun _=>0)
 case atStart=>rfl
 case round =>
  subst hrel
  go_wp2
  go_ret
  exact⟨rfl,rfl⟩
theorem has_none (a:Option Addr) (cap:Nat) (f:Value) (w:World) :
  Calls Tryz.prog 143 #[.slice a 0 cap,f] w fun e w'=>e=.returned (.bool false)∧w'=w:=by
 go_enter Tryz.func143,Tryz.ntmps143
 go_wp2_with (go_at_call 187;refine (index_none _ _ _ _).mono ?_;rintro e w' ⟨rfl,rfl⟩)
 go_ret
 exact⟨rfl,rfl⟩
theorem Tryz.laidOut:laidOutB Tryz.prog=true:=by kernel_rfl
theorem Tryz.cellsC:Tryz.prog.cellsOf 38=2:=by kernel_rfl
theorem Tryz.cellsU:Tryz.prog.cellsOf 36=1:=by kernel_rfl
theorem new_two (w:World) (x y:Value) (t:TypeId):∀ j u,[x,y][j]? = some u→(w.alloc (.cells #[x,y] t)).cell? ((⟨w.heap.size,0,none⟩:Addr).add j)=some u :=
 World.news_of_block (cs:=#[x,y]) (MapKept.heap_alloc w _).1
theorem all_take_step {l:List C} {k:Nat} {c:C} (h:(l.take k).all rightC=true) (h1:l[k]? = some c) (hc:rightC c=true):(l.take (k+1)).all rightC=true:=by
 rw [List.take_add_one,h1,List.all_append,h];simp [hc]
theorem not_all {l:List C} {k:Nat} {c:C} (h1:l[k]? = some c) (hc:rightC c=false):l.all rightC=false:=by
 rw [List.all_eq_false]
 exact⟨c,List.mem_of_getElem? h1,by simp [hc]⟩
theorem OwnsC.below {w w':World} {base:Nat} {v:Value} {l:List C} (h:OwnsC w base v l) (hb:Below w.heap.size w w'):OwnsC w' base v l:=by
 have hlt:=World.ownsRow.lt h
 obtain⟨h1,h2⟩:=h
 refine⟨h1,h2.imp id ?_⟩
 rintro⟨g,cap,cur,rfl,hg,hh,r⟩
 exact⟨g,cap,cur,rfl,hg,(hb.block g (hlt g rfl).2).trans hh,r⟩
def At (w:World) (g:Nat) (c:C):Prop:=w.cell? ⟨g,0,none⟩=some (.int .u32 (c.1.val:Int))∧w.cell? ⟨g,1,none⟩=some (.int .u32 (c.2.val:Int))∧g<w.heap.size
theorem At.below {w w':World} {g:Nat} {c:C} (h:At w g c) (hb:Below w.heap.size w w'):At w' g c :=
 ⟨(hb.cell (p:=⟨g,0,none⟩) h.2.2).trans h.1,(hb.cell (p:=⟨g,1,none⟩) h.2.2).trans h.2.1,Nat.lt_of_lt_of_le h.2.2 hb.size⟩
theorem At.alloc {w:World} {g:Nat} {c:C} (h:At w g c) (o:Obj):At (w.alloc o) g c:=h.below (below_alloc w o)
theorem At.made (w:World) (c:C) (t:TypeId):At (w.alloc (.cells #[.int .u32 (c.1.val:Int),.int .u32 (c.2.val:Int)] t)) w.heap.size c :=
 ⟨by simp [go_sem],by simp [go_sem],by simp⟩
theorem At.regrown {w:World} {g:Nat} {c:C} (h:At w g c):(∀ d os,(grow (redrawn w d) os).cell? ⟨g,0,none⟩=some (.int .u32 (c.1.val:Int)))∧∀ d os,(grow (redrawn w d) os).cell? ⟨g,1,none⟩=some (.int .u32 (c.2.val:Int)) :=
 ⟨fun d os=>cell_regrown h.1 d os,fun d os=>cell_regrown h.2.1 d os⟩
theorem CellsC.regrown {w:World} {g off:Nat} {l:List C} (h:CellsC w g off l) {j:Nat} {c:C} (hj:l[j]? = some c):(∀ d os,(grow (redrawn w d) os).cell? ⟨g,off+j*2,none⟩=some (.int .u32 (c.1.val:Int)))∧∀ d os,(grow (redrawn w d) os).cell? ⟨g,off+j*2+1,none⟩=some (.int .u32 (c.2.val:Int)) :=
 ⟨fun d os=>cell_regrown (h j c hj).1 d os,fun d os=>cell_regrown (h j c hj).2 d os⟩
structure OutIs (l:List C) (k:Nat) (out:List C):Prop where
 rises:risesC out
 mem:∀ y,y∈out↔y∈l.take k∧neededB l y=true
 len:out.length≤k
theorem mem_take_step {l:List C} {k:Nat} {c y:C} (h:l[k]? = some c):y∈l.take (k+1)↔y∈l.take k∨y=c:=by
 have e:l.take (k+1)=l.take k ++ [c]:=by rw [List.take_add_one,h];rfl
 rw [e];simp
theorem OutIs.start (l:List C):OutIs l 0 []:=⟨List.Pairwise.nil,fun y=>by simp,Nat.le_refl _⟩
theorem OutIs.skip {l out:List C} {k:Nat} {c:C} (h:OutIs l k out) (hk:l[k]? = some c) (hn:neededB l c=false):OutIs l (k+1) out :=
 ⟨h.rises,fun y=>by
  rw [h.mem,mem_take_step hk]
  constructor
  ·rintro⟨h1,h2⟩;exact⟨.inl h1,h2⟩
  ·rintro⟨h1 | rfl,h2⟩
   ·exact⟨h1,h2⟩
   ·exact absurd h2 (by rw [hn];simp),Nat.le_succ_of_le h.len⟩
theorem OutIs.there {l out:List C} {k:Nat} {c:C} (h:OutIs l k out) (hk:l[k]? = some c) (hc:c∈out):OutIs l (k+1) out :=
 ⟨h.rises,fun y=>by
  rw [h.mem,mem_take_step hk]
  constructor
  ·rintro⟨h1,h2⟩;exact⟨.inl h1,h2⟩
  ·rintro⟨h1 | rfl,h2⟩
   ·exact⟨h1,h2⟩
   ·exact (h.mem y).1 hc,Nat.le_succ_of_le h.len⟩
theorem rises_insert {out:List C} {c:C} {j:Nat} (h:risesC out) (h1:∀ d∈out.take j,ltC d c=true) (h2:∀ d∈out.drop j,ltC c d=true):risesC (out.take j ++ [c] ++ out.drop j):=by
 unfold risesC at *
 have h0:=h
 rw [← List.take_append_drop j out,List.pairwise_append] at h0
 rw [List.pairwise_append,List.pairwise_append]
 refine⟨⟨h0.1,List.pairwise_singleton _ _,fun a ha b hb=>?_⟩,h0.2.1,fun a ha b hb=>?_⟩
 ·rw [List.mem_singleton.1 hb];exact h1 a ha
 ·rcases List.mem_append.1 ha with ha|ha
  ·exact h0.2.2 a ha b hb
  ·rw [List.mem_singleton.1 ha];exact h2 b hb
theorem OutIs.put {l out:List C} {k j:Nat} {c:C} (h:OutIs l k out) (hk:l[k]? = some c) (hn:neededB l c=true) (h1:∀ d∈out.take j,ltC d c=true) (h2:∀ d∈out.drop j,ltC c d=true):OutIs l (k+1) (out.take j ++ [c] ++ out.drop j) :=
 ⟨rises_insert h.rises h1 h2,fun y=>by
  have e:y∈out.take j ++ [c] ++ out.drop j↔y∈out∨y=c:=by
   have:=List.take_append_drop j out
   constructor
   ·intro hy
    rcases List.mem_append.1 hy with hy|hy
    ·rcases List.mem_append.1 hy with hy|hy
     ·exact .inl (List.mem_of_mem_take hy)
     ·exact .inr (List.mem_singleton.1 hy)
    ·exact .inl (List.mem_of_mem_drop hy)
   ·rintro (hy | rfl)
    ·rw [← this] at hy
     rcases List.mem_append.1 hy with hy|hy
     ·exact List.mem_append_left _ (List.mem_append_left _ hy)
     ·exact List.mem_append_right _ hy
    ·exact List.mem_append_left _ (List.mem_append_right _ (by simp))
  rw [e,h.mem,mem_take_step hk]
  constructor
  ·rintro (⟨a,b⟩ | rfl)
   ·exact⟨.inl a,b⟩
   ·exact⟨.inr rfl,hn⟩
  ·rintro⟨a | rfl,b⟩
   ·exact .inl ⟨a,b⟩
   ·exact .inr rfl,by
  have:=h.len
  simp
  omega⟩
theorem OutIs.least {l out:List C} (h:OutIs l l.length out):IsLeast l out:=⟨h.rises,fun c=>by rw [h.mem,List.take_length]⟩
theorem news_cells {W:World} {go o:Nat} {l':List C} (h:CellsC W go o l'):∀ t u,(flat l')[t]? = some u→W.cell? ((⟨go,o,none⟩:Addr).add t)=some u:=by
 intro t u hu
 rw [Addr.add_lit]
 have hlt:t<(flat l').length:=by
  rcases Nat.lt_or_ge t (flat l').length with h1|h1
  ·exact h1
  ·rw [List.getElem?_eq_none h1] at hu;exact absurd hu (by simp)
 rw [flat_length] at hlt
 have hj:t / 2<l'.length:=by omega
 have hg:=h (t / 2) _ (List.getElem?_eq_getElem hj)
 rcases Nat.mod_two_eq_zero_or_one t with hm|hm
 ·have e3:t=t / 2*2:=by omega
  rw [e3,flat_get0,List.getElem?_eq_getElem hj] at hu
  have hu:=Option.some.inj hu
  rw [e3,← hu]
  exact hg.1
 ·have e3:t=t / 2*2+1:=by omega
  rw [e3,flat_get1,List.getElem?_eq_getElem hj] at hu
  have hu:=Option.some.inj hu
  rw [e3,← hu,← Nat.add_assoc]
  exact hg.2
theorem CellsC.take {W:World} {go o:Nat} {l':List C} (h:CellsC W go o l') (s:Nat):CellsC W go o (l'.take s):=fun j c hj=>by
 rw [List.getElem?_take] at hj
 split at hj
 ·exact h j c hj
 ·cases hj
theorem CellsC.drop {W:World} {go:Nat} {l':List C} (h:CellsC W go 0 l') (s:Nat):CellsC W go (s*2) (l'.drop s):=fun j c hj=>by
 rw [List.getElem?_drop] at hj
 have:=h (s+j) c hj
 have e1:0+(s+j) * 2=s*2+j*2:=by omega
 rw [e1] at this
 exact this
end Go.Proofs.YtblbhmnahoiecaaGreat
