/- A part of the proof. -/
import Derived.Test.YtblbhmnahoiecaaGreatProg
import Derived.Test.YtblbhmnahoiecaaGreatHMA
import Derived.Deep.RegionHeld3
import Derived.Lib.QuietBelow
import Derived.Deep.Onto
import Derived.WalkSmall
import Derived.Test.YtblbhmnahoiecaaGreatCLay
import Derived.DeepKeys4
import Derived.Deep.AppendLies
set_option linter.unusedVariables false
set_option linter.unusedSimpArgs false
set_option maxRecDepth 100000
set_option maxHeartbeats 8000000
namespace Go.Proofs.YtblbhmnahoiecaaGreat
open Go.RowKit
open Go.RowKit Go.Sort
open Go.RowKit Go.Shelf
open Go.RowKit Go.Shelf Go.Sort
open Go.RowKit Go.Maps
theorem ret_bool {a b:Bool} (h:a=b):Ending.returned (.bool a)=.returned (.bool b):=by rw [h]
theorem ret_int {k:IntKind} {a b:Int} (h:a=b):Ending.returned (.int k a)=.returned (.int k b):=by rw [h]
theorem right_bits (s:Nat) (hs:s<4294967296):(bits BinOp.andNot IntKind.u32 (s:Int) 16777215 == 0)=rightB s:=by
 have h:=bits_andNot32 s 16777215
 have h':bits BinOp.andNot IntKind.u32 (s:Int) 16777215=((andNot32 s 16777215:Nat):Int):=h
 rw [h',rightB,Bool.eq_iff_iff]
 simp only [beq_iff_eq,decide_eq_true_eq]
 have e:(16777215:Nat)=2 ^ 24 - 1:=by decide
 constructor
 ·intro hz
  have hz':andNot32 s 16777215=0:=by omega
  exact Nat.lt_pow_two_of_testBit (n:=24) _ (fun k hk=>by
   have:=testBit_andNot32 s 16777215 k hs
   rw [hz',Nat.zero_testBit,e,Nat.testBit_two_pow_sub_one] at this
   have hk':¬ k<24:=by omega
   simp [hk'] at this
   exact this)
 ·intro hlt
  have:andNot32 s 16777215=0:=by
   apply Nat.eq_of_testBit_eq
   intro k
   rw [testBit_andNot32 s 16777215 k hs,Nat.zero_testBit,e,Nat.testBit_two_pow_sub_one]
   by_cases hk:k<24
   ·simp [hk]
   ·have hp:2 ^ 24<=2 ^ k:=Nat.pow_le_pow_right (by decide) (by omega)
    have:s.testBit k=false:=Nat.testBit_lt_two_pow (Nat.lt_of_lt_of_le hlt hp)
    simp [this]
  omega
theorem right_any (s:Nat) (w:World) (hs:s<4294967296) :
  Calls Tryz.prog 188 #[.int .u32 s] w fun e w'=>e=.returned (.bool (rightB s))/\w'=w:=by
 have H:Hid ((bits BinOp.andNot IntKind.u32 (s:Int) 16777215 == 0)=rightB s):=right_bits s hs
 go_enter Tryz.func188,Tryz.ntmps188
 go_wp2
 go_ret
 exact⟨ret_bool H.out,rfl⟩
def powI (n:Nat):Int:=((2 ^ n:Nat):Int)
theorem powI_succ (n:Nat):powI (n+1)=powI n*2:=by simp [powI,Nat.pow_succ]
theorem powI_bd {n:Nat} (h:n<=24):1<=powI n/\powI n<=16777216:=by
 have h1:(2:Nat) ^ n<=2 ^ 24:=Nat.pow_le_pow_right (by decide) h
 have h2:0<(2:Nat) ^ n:=Nat.two_pow_pos n
 unfold powI;omega
theorem power_any (n:Nat) (w:World) (hn:n<=24) :
  Calls Tryz.prog 236 #[.int .i64 n] w fun e w'=>e=.returned (.int .i64 (powI n))/\w'=w:=by
 go_enter Tryz.func236,Tryz.ntmps236
 go_wp2
 go_loop [3,4] (fun p i=>∃ k:Nat,k<=n/\i=.int .i64 k/\p=.int .i64 (powI k)) (fun _ i=>n - (intOf i).toNat)
 case atStart=>exact⟨0,Nat.zero_le _,rfl,rfl⟩
 case round =>
  obtain⟨k,hk,rfl,rfl⟩:=hrel
  have hp:=powI_bd (n:=k) (by omega)
  have HS:Hid (powI (k+1)=powI k*2):=powI_succ k
  by_cases hlt:k<n
  ·go_wp2
   go_round
   case rel=>exact⟨k+1,by omega,by go_num,by rw [HS.out]⟩
   case measure=>simp [intOf];omega
  ·obtain rfl:k=n:=by omega
   go_wp2
   go_ret
   exact⟨rfl,rfl⟩
theorem refRight_any (s : Nat) (w : World) (hs : s < 4294967296) :
    Calls Tryz.prog 234 #[.int .u32 s] w fun e w'=>e=.returned (.bool (rightB s))/\w'=w:=by
  go_enter Tryz.func234,Tryz.ntmps234
  go_wp2_with (go_at_call 236;refine (power_any 24 _ (by omega)).mono ?_;rintro e w' ⟨rfl,rfl⟩)
  go_ret
  exact ⟨ret_bool (by have e : powI 24 = 16777216 := rfl
                      rw [Bool.eq_iff_iff];simp only [rightB,e,decide_eq_true_eq];omega),rfl⟩
theorem refHas_num (s j:Nat):(((s:Int) / powI j) % 2 == 1)=s.testBit j:=by
 have e:((s:Int) / powI j) % 2=((s / 2 ^ j % 2:Nat):Int):=by simp [powI]
 rw [e,Nat.testBit_eq_decide_div_mod_eq,Bool.eq_iff_iff]
 simp only [beq_iff_eq,decide_eq_true_eq]
 omega
theorem quo_bd (s j:Nat) (hs:s<4294967296):0<=(s:Int) / powI j/\(s:Int) / powI j<=4294967295:=by
 have e:(s:Int) / powI j=((s / 2 ^ j:Nat):Int):=by simp [powI]
 have:=Nat.div_le_self s (2 ^ j)
 rw [e]
 generalize s / 2 ^ j=q at *
 omega
theorem refHas_any (s:Nat) (i:Int) (w:World) (hs:s<4294967296) :
  Calls Tryz.prog 206 #[.int .u32 s,.int .i64 i] w fun e w'=>e=.returned (.bool (hasB s i))/\w'=w:=by
 by_cases h0:0<=i
 ·by_cases h1:i<24
  ·obtain⟨j,rfl⟩:=Int.eq_ofNat_of_zero_le h0
   have hj:j<24:=by omega
   have hp:=powI_bd (n:=j) (by omega)
   have H:Hid ((((s:Int) / powI j) % 2 == 1)=hasB s (j:Int)):=(refHas_num s j).trans (hasB_nat hj).symm
   have hq:=quo_bd s j hs
   go_enter Tryz.func206,Tryz.ntmps206
   go_wp2_with (go_at_call 236;refine (power_any j _ (by omega)).mono ?_;rintro e w' ⟨rfl,rfl⟩)
   go_ret
   exact⟨ret_bool H.out,rfl⟩
  ·have H:Hid (hasB s i=false):=hasB_no (isDimB_hi (by omega))
   go_enter Tryz.func206,Tryz.ntmps206
   go_wp2_with fail
   go_ret
   exact⟨ret_bool H.out.symm,rfl⟩
 ·have H:Hid (hasB s i=false):=hasB_no (isDimB_lo (by omega))
  go_enter Tryz.func206,Tryz.ntmps206
  go_wp2_with fail
  go_ret
  exact⟨ret_bool H.out.symm,rfl⟩
def Grew (w w':World):Prop:=∃ q os,w'=grow (w.drewN q) os
theorem Grew.refl (w:World):Grew w w:=⟨0,#[],by rw [grow_empty];rfl⟩
theorem Grew.alloc {w w':World} (h:Grew w w') (o:Obj):Grew w (w'.alloc o):=by
 obtain⟨q,os,rfl⟩:=h
 exact⟨q,os ++ #[o],by rw [alloc_eq_grow,grow_grow]⟩
theorem Grew.below {w w':World} (h:Grew w w'):Below w.heap.size w w':=by
 obtain⟨q,os,rfl⟩:=h
 exact⟨rfl,rfl,rfl,by simp [grow],fun k hk=>by simp [grow,Array.getElem?_append,hk]⟩
theorem Grew.trans {a b c:World} (h1:Grew a b) (h2:Grew b c):Grew a c:=by
 obtain⟨q,os,rfl⟩:=h1
 obtain⟨r,os',rfl⟩:=h2
 exact⟨q+r,os++os',by show grow (grow ((a.drewN q).drewN r) os) os'=_;rw [grow_grow,World.drewN_drewN]⟩
theorem Grew.drew {a b:World} (h1:Grew a b):Grew a b.drew:=h1.trans ⟨1,#[],by rw [grow_empty];rfl⟩
theorem cright_nat (p n:Nat) (w:World) (hp:p<4294967296) (hn:n<4294967296) :
  Calls Tryz.prog 150 #[.agg #[.int .u32 p,.int .u32 n]] w fun e w'=>e=.returned (.bool (rightB p && rightB n))/\Grew w w':=by
 cases h:rightB p
 all_goals
  go_enter Tryz.func150,Tryz.ntmps150
  go_wp2_with (go_at_call 188;refine (right_any _ _ (by assumption)).mono ?_;rintro e w' ⟨rfl,rfl⟩;try rw [h])
  go_ret
  exact⟨rfl,(Grew.refl w).alloc _⟩
abbrev clV (c:C):Value:=.agg #[.int .u32 (c.1.val:Int),.int .u32 (c.2.val:Int)]
theorem cright_any (c:C) (w:World):Calls Tryz.prog 150 #[clV c] w fun e w'=>e=.returned (.bool (rightC c))/\Grew w w' :=
 cright_nat c.1.val c.2.val w c.1.isLt c.2.isLt
theorem refcright_nat (p n:Nat) (w:World) (hp:p<4294967296) (hn:n<4294967296) :
  Calls Tryz.prog 203 #[.agg #[.int .u32 p,.int .u32 n]] w fun e w'=>e=.returned (.bool (rightB p && rightB n))/\Grew w w':=by
 cases h:rightB p
 all_goals
  go_enter Tryz.func203,Tryz.ntmps203
  go_wp2_with (go_at_call 234;refine (refRight_any _ _ (by assumption)).mono ?_;rintro e w' ⟨rfl,rfl⟩;try rw [h])
  go_ret
  exact⟨rfl,(Grew.refl w).alloc _⟩
theorem refcright_any (c:C) (w:World):Calls Tryz.prog 203 #[clV c] w fun e w'=>e=.returned (.bool (rightC c))/\Grew w w' :=
 refcright_nat c.1.val c.2.val w c.1.isLt c.2.isLt
theorem low32 (s:Nat) (hs:s<4294967296):bits BinOp.and IntKind.u32 (s:Int) 16777215=((s &&& 16777215:Nat):Int):=bits_and32 s 16777215 hs (by decide)
theorem and_lt32 {a b:Nat} (ha:a<4294967296):a &&& b<4294967296:=Nat.lt_of_le_of_lt Nat.and_le_left ha
theorem or_lt32 {a b:Nat} (ha:a<4294967296) (hb:b<4294967296):a ||| b<4294967296:=Nat.or_lt_two_pow (n:=32) ha hb
theorem clash_bits (p n:Nat) (hp:p<4294967296) (hn:n<4294967296):(bits BinOp.and IntKind.u32 (bits BinOp.and IntKind.u32 (p:Int) (n:Int)) 16777215 != 0)=decide (p &&& n &&& 16777215≠0):=by
 rw [bits_and32 p n hp hn,low32 _ (and_lt32 hp),Bool.eq_iff_iff]
 simp
theorem clash_nat (p n:Nat) (w:World) (hp:p<4294967296) (hn:n<4294967296) :
  Calls Tryz.prog 144 #[.agg #[.int .u32 p,.int .u32 n]] w fun e w'=>e=.returned (.bool (decide (p &&& n &&& 16777215≠0)))/\Grew w w':=by
 have H:Hid ((bits BinOp.and IntKind.u32 (bits BinOp.and IntKind.u32 (p:Int) (n:Int)) 16777215 != 0)=decide (p &&& n &&& 16777215≠0)):=clash_bits p n hp hn
 go_enter Tryz.func144,Tryz.ntmps144
 go_wp2
 go_ret
 exact⟨ret_bool H.out,(Grew.refl w).alloc _⟩
theorem clash_any (c:C) (w:World):Calls Tryz.prog 144 #[clV c] w fun e w'=>e=.returned (.bool (clashC c))/\Grew w w' :=
 clash_nat c.1.val c.2.val w c.1.isLt c.2.isLt
theorem or_low (a b:Nat) (ha:a<4294967296) (hb:b<4294967296):bits BinOp.and IntKind.u32 (bits BinOp.or IntKind.u32 (a:Int) (b:Int)) 16777215=(((a ||| b) &&& 16777215:Nat):Int):=by
 rw [bits_or32 a b ha hb,low32 _ (or_lt32 ha hb)]
theorem sub_bits (y x:Nat) (hy:y<4294967296):(bits BinOp.and IntKind.u32 (bits BinOp.andNot IntKind.u32 (y:Int) (x:Int)) 16777215 == 0)=sub24 y x:=by
 rw [bits_andNot32,low32 _ (andNot32_lt _ _),Bool.eq_iff_iff,sub24]
 simp
theorem bel_nat (p n q m:Nat) (w:World) (hq:q<4294967296) (hm:m<4294967296) :
  Calls Tryz.prog 192 #[.agg #[.int .u32 p,.int .u32 n],.agg #[.int .u32 q,.int .u32 m]] w fun e w'=>e=.returned (.bool (sub24 q p && sub24 m n))/\Grew w w':=by
 have h1:=sub_bits q p hq
 have h2:=sub_bits m n hm
 cases h:sub24 q p
 all_goals
  rw [h] at h1
  go_enter Tryz.func192,Tryz.ntmps192
  go_wp2
  go_ret
  exact⟨by simp [h2],((Grew.refl w).alloc _).alloc _⟩
theorem bel_any (a b:C) (w:World):Calls Tryz.prog 192 #[clV a,clV b] w fun e w'=>e=.returned (.bool (belC a b))/\Grew w w' :=
 bel_nat a.1.val a.2.val b.1.val b.2.val w b.1.isLt b.2.isLt
theorem or_bits (a b:Nat) (ha:a<4294967296) (hb:b<4294967296):(bits BinOp.or IntKind.u32 (a:Int) (b:Int) == (a:Int))=decide (a ||| b=a):=by
 rw [bits_or32 a b ha hb,Bool.eq_iff_iff]
 simp
 omega
theorem refbel_nat (p n q m:Nat) (w:World) (hp:p<4294967296) (hn:n<4294967296) (hq:q<4294967296) (hm:m<4294967296) :
  Calls Tryz.prog 235 #[.agg #[.int .u32 p,.int .u32 n],.agg #[.int .u32 q,.int .u32 m]] w fun e w'=>e=.returned (.bool (decide (p ||| q=p) && decide (n ||| m=n)))/\Grew w w':=by
 have h1:=or_bits p q hp hq
 have h2:=or_bits n m hn hm
 generalize decide (p ||| q=p)=r1 at h1 ⊢
 generalize decide (n ||| m=n)=r2 at h2 ⊢
 cases r1
 all_goals
  go_enter Tryz.func235,Tryz.ntmps235
  go_wp2
  go_ret
  exact⟨by simp [h2],((Grew.refl w).alloc _).alloc _⟩
theorem refbel_any (a b:C) (w:World):Calls Tryz.prog 235 #[clV a,clV b] w fun e w'=>e=.returned (.bool (belR a b))/\Grew w w' :=
 refbel_nat a.1.val a.2.val b.1.val b.2.val w a.1.isLt a.2.isLt b.1.isLt b.2.isLt
theorem less_nat (p n q m:Nat) (w:World) :
  Calls Tryz.prog 205 #[.agg #[.int .u32 p,.int .u32 n],.agg #[.int .u32 q,.int .u32 m]] w fun e w'=>e=.returned (.bool (decide (p<q) || (decide (p=q) && decide (n<m))))/\Grew w w':=by
 by_cases h1:p<q
 ·go_enter Tryz.func205,Tryz.ntmps205
  go_wp2
  go_ret
  exact⟨ret_bool (by simp [h1]),((Grew.refl w).alloc _).alloc _⟩
 ·by_cases h2:p=q
  ·subst h2
   go_enter Tryz.func205,Tryz.ntmps205
   go_wp2
   go_ret
   exact⟨ret_bool (by simp),((Grew.refl w).alloc _).alloc _⟩
  ·go_enter Tryz.func205,Tryz.ntmps205
   go_wp2
   go_ret
   exact⟨ret_bool (by simp [h1,h2]),((Grew.refl w).alloc _).alloc _⟩
theorem less_any (a b:C) (w:World):Calls Tryz.prog 205 #[clV a,clV b] w fun e w'=>e=.returned (.bool (ltC a b))/\Grew w w' :=
 less_nat a.1.val a.2.val b.1.val b.2.val w
theorem compare_any (x y:Nat) (w:World) :
  Calls Tryz.prog 190 #[.int .u32 x,.int .u32 y] w fun e w'=>e=.returned (.int .i64 (cmpN x y))/\w'=w:=by
 rcases cmpN_cases x y with ⟨h,e⟩|⟨h,e⟩|⟨h,e⟩
 ·rw [e]
  clear e
  go_enter Tryz.func190,Tryz.ntmps190
  go_wp2
  go_ret
  exact⟨rfl,rfl⟩
 ·rw [e]
  clear e
  have h':¬ x<y:=by omega
  go_enter Tryz.func190,Tryz.ntmps190
  go_wp2
  go_ret
  exact⟨rfl,rfl⟩
 ·rw [e]
  clear e
  subst h
  go_enter Tryz.func190,Tryz.ntmps190
  go_wp2
  go_ret
  exact⟨rfl,rfl⟩
def orI (x y:Int):Int:=if x≠0 then x else y
theorem or_any (x y:Int) (g:Nat) (w:World) (h0:w.cell? ⟨g,0,none⟩=some (.int .i64 x)) (h1:w.cell? ⟨g,1,none⟩=some (.int .i64 y)) :
  Calls Tryz.prog 189 #[.slice (some ⟨g,0,none⟩) 2 2] w fun e w'=>e=.returned (.int .i64 (orI x y))/\w'=w:=by
 go_enter Tryz.func189,Tryz.ntmps189
 go_wp2
 go_loop [8] (fun i=>∃ k:Nat,k<=2/\i=.int .i64 k/\(1<=k->x=0)/\(2<=k->y=0)) (fun i=>2 - (intOf i).toNat)
 case atStart=>exact⟨0,by omega,rfl,fun h=>absurd h (by omega),fun h=>absurd h (by omega)⟩
 case round =>
  obtain⟨k,hk,rfl,hx,hy⟩:=hrel
  match k,hk,hx,hy with
  | 0,_,_,_ =>
   by_cases e:x=0
   ·subst e
    go_wp2
    go_round
    case rel=>exact⟨1,by omega,by go_num,by simp,fun h=>absurd h (by omega)⟩
    case measure=>simp [intOf]
   ·go_wp2
    go_ret
    exact⟨ret_int (by simp [orI,e]),rfl⟩
  | 1,_,hx,_ =>
   have hx:=hx (by omega)
   subst hx
   by_cases e:y=0
   ·subst e
    go_wp2
    go_round
    case rel=>exact⟨2,by omega,by go_num,by simp,by simp⟩
    case measure=>simp [intOf]
   ·go_wp2
    go_ret
    exact⟨ret_int (by simp [orI]),rfl⟩
  | 2,_,hx,hy =>
   have hx:=hx (by omega)
   have hy:=hy (by omega)
   subst hx hy
   go_wp2
   go_ret
   exact⟨ret_int (by simp [orI]),rfl⟩
theorem cmp_nat (p n q m:Nat) (w:World) :
  Calls Tryz.prog 151 #[.agg #[.int .u32 p,.int .u32 n],.agg #[.int .u32 q,.int .u32 m]] w fun e w'=>e=.returned (.int .i64 (orI (cmpN p q) (cmpN n m)))/\Grew w w':=by
 go_enter Tryz.func151,Tryz.ntmps151
 go_wp2
 go_region_held3 (fun w'=>w'.cell? ⟨w.heap.size,0,none⟩=some (.int .u32 p)/\w'.cell? ⟨w.heap.size,1,none⟩=some (.int .u32 n)/\w'.cell? ⟨w.heap.size+1,0,none⟩=some (.int .u32 q)/\w'.cell? ⟨w.heap.size+1,1,none⟩=some (.int .u32 m)) (go_keep)
  (first
   | (go_at_call 190;refine (compare_any _ _ _).mono ?_;rintro e w' ⟨rfl,rfl⟩)
   | (go_at_call 189;refine (or_any (cmpN p q) (cmpN n m) _ _ (by simp [go_sem]) (by simp [go_sem])).mono ?_;rintro e w' ⟨rfl,rfl⟩))
 go_wp2
 go_ret
 exact⟨rfl,((((Grew.refl w).alloc _).alloc _).alloc _).drew⟩
theorem cmp_any (a b:C) (w:World):Calls Tryz.prog 151 #[clV a,clV b] w fun e w'=>e=.returned (.int .i64 (cmpC a b))/\Grew w w' :=
 cmp_nat a.1.val a.2.val b.1.val b.2.val w
theorem Tryz.infoC:(Tryz.prog.info? 38).map (fun i=>(i.zero,i.size,i.bytes))=some (some (.agg #[.int .u32 0,.int .u32 0]),2,8):=by kernel_rfl
def encC (c:C):List Value:=[.int .u32 (c.1.val:Int),.int .u32 (c.2.val:Int)]
def flat (l:List C):List Value:=l.flatMap encC
theorem flat_append (l m:List C):flat (l++m)=flat l++flat m:=by simp [flat]
theorem flat_one (c:C):flat [c]=encC c:=by simp [flat]
theorem flat_length (l:List C):(flat l).length=l.length*2:=by
 induction l with
 | nil=>rfl
 | cons c l ih =>
  have e:flat (c :: l)=encC c++flat l:=rfl
  rw [e,List.length_append,ih]
  simp [encC]
  omega
theorem flat_get0 (l:List C) (j:Nat):(flat l)[j*2]? = l[j]?.map (fun c=>.int .u32 (c.1.val:Int)):=by
 induction l generalizing j with
 | nil=>simp [flat]
 | cons c l ih =>
  have e:flat (c :: l)=.int .u32 (c.1.val:Int) :: .int .u32 (c.2.val:Int) :: flat l:=rfl
  rw [e]
  cases j with
  | zero=>rfl
  | succ j =>
   have e2:(j+1) * 2=j*2+1+1:=by omega
   rw [e2,List.getElem?_cons_succ,List.getElem?_cons_succ,ih,List.getElem?_cons_succ]
theorem flat_get1 (l:List C) (j:Nat):(flat l)[j*2+1]? = l[j]?.map (fun c=>.int .u32 (c.2.val:Int)):=by
 induction l generalizing j with
 | nil=>simp [flat]
 | cons c l ih =>
  have e:flat (c :: l)=.int .u32 (c.1.val:Int) :: .int .u32 (c.2.val:Int) :: flat l:=rfl
  rw [e]
  cases j with
  | zero=>rfl
  | succ j =>
   have e2:(j+1) * 2+1=j*2+1+1+1:=by omega
   rw [e2,List.getElem?_cons_succ,List.getElem?_cons_succ,ih,List.getElem?_cons_succ]
theorem flat_oneCell (l:List C):∀ u∈flat l,u.oneCell'=true:=by
 intro u hu
 obtain⟨c,_,hc⟩:=List.mem_flatMap.1 hu
 simp [encC] at hc
 rcases hc with rfl|rfl <;> rfl
def OwnsC (w:World) (base:Nat) (v:Value) (l:List C):Prop:=w.ownsRow base 38 2 v l.length (flat l)
def CellsC (w:World) (g off:Nat) (l:List C):Prop :=
 ∀ j c,l[j]? = some c->w.cell? ⟨g,off+j*2,none⟩=some (.int .u32 (c.1.val:Int))/\w.cell? ⟨g,off+j*2+1,none⟩=some (.int .u32 (c.2.val:Int))
def CRow (w:World) (v:Value) (l:List C):Prop :=
 (∃ a cap,v=.slice a 0 cap/\l=[])\/∃ g off cap,v=.slice (some ⟨g,off,none⟩) l.length cap/\g<w.heap.size/\CellsC w g off l
theorem CellsC.below {w w':World} {B g off:Nat} {l:List C} (h:CellsC w g off l) (hb:Below B w w') (hg:g<B):CellsC w' g off l :=
 fun j c hj=>⟨(hb.cell (p:=⟨g,off+j*2,none⟩) hg).trans (h j c hj).1,(hb.cell (p:=⟨g,off+j*2+1,none⟩) hg).trans (h j c hj).2⟩
theorem OwnsC.cells {w:World} {base g cap:Nat} {l:List C} (h:OwnsC w base (.slice (some ⟨g,0,none⟩) l.length cap) l):CellsC w g 0 l:=by
 intro j c hj
 have hlt:j<l.length:=by
  rcases Nat.lt_or_ge j l.length with h1|h1
  ·exact h1
  ·rw [List.getElem?_eq_none h1] at hj;exact absurd hj (by simp)
 have e1:=World.ownsRow.cellAt h (j*2) (by omega)
 have e2:=World.ownsRow.cellAt h (j*2+1) (by omega)
 rw [flat_get0,hj] at e1
 rw [flat_get1,hj] at e2
 rw [Nat.zero_add]
 exact⟨e1,e2⟩
theorem OwnsC.form {w:World} {base:Nat} {v:Value} {l:List C} (h:OwnsC w base v l):(v=.slice none 0 0/\l=[])\/∃ g cap,v=.slice (some ⟨g,0,none⟩) l.length cap/\base<=g/\g<w.heap.size/\CellsC w g 0 l:=by
 have h0:=h
 obtain⟨h1,h2 | ⟨g,cap,cur,rfl,hg,hh,hn,hc,hs,ht⟩⟩:=h
 ·exact .inl ⟨h2.1,List.length_eq_zero_iff.1 h2.2⟩
 ·exact .inr ⟨g,cap,rfl,hg,(World.ownsRow.lt h0 g rfl).2,OwnsC.cells h0⟩
theorem OwnsC.row {w:World} {base:Nat} {v:Value} {l:List C} (h:OwnsC w base v l):CRow w v l:=by
 rcases h.form with ⟨rfl,rfl⟩|⟨g,cap,rfl,hb,hg,hc⟩
 ·exact .inl ⟨_,_,rfl,rfl⟩
 ·exact .inr ⟨g,0,cap,rfl,hg,hc⟩
theorem CRow.below {w w':World} {v:Value} {l:List C} (h:CRow w v l) (hb:Below w.heap.size w w'):CRow w' v l:=by
 rcases h with h|⟨g,off,cap,rfl,hg,hc⟩
 ·exact .inl h
 ·exact .inr ⟨g,off,cap,rfl,Nat.lt_of_lt_of_le hg hb.size,hc.below hb hg⟩
theorem chain {a b c:World} (h1:Below a.heap.size a b) (h2:Below b.heap.size b c):Below a.heap.size a c:=h1.trans (h2.mono h1.size)
theorem below_alloc (w:World) (o:Obj):Below w.heap.size w (w.alloc o):=(Below.refl _ _).alloc (Nat.le_refl _) _
theorem OwnsC.mono {w:World} {base base':Nat} {v:Value} {l:List C} (h:OwnsC w base v l) (hb:base'<=base):OwnsC w base' v l:=World.ownsRow.mono h hb
theorem CRow.len {w:World} {v:Value} {l:List C} (h:CRow w v l):∃ a cap,v=.slice a l.length cap:=by
 rcases h with ⟨a,cap,rfl,rfl⟩|⟨g,off,cap,rfl,_,_⟩
 ·exact⟨_,_,rfl⟩
 ·exact⟨_,_,rfl⟩
theorem CRow.cons {w:World} {v:Value} {l:List C} (h:CRow w v l) (hl:l≠[]):∃ g off cap,v=.slice (some ⟨g,off,none⟩) l.length cap/\g<w.heap.size/\CellsC w g off l:=by
 rcases h with ⟨a,cap,rfl,rfl⟩|h
 ·exact absurd rfl hl
 ·exact h
theorem get_some {α:Type} {l:List α} {k:Nat} (h:k<l.length):∃ c,l[k]? = some c:=⟨l[k],List.getElem?_eq_getElem h⟩
theorem take_eq_step {l m:List C} {k:Nat} {c d:C} (h:l.take k=m.take k) (h1:l[k]? = some c) (h2:m[k]? = some d) (e:c=d):l.take (k+1)=m.take (k+1):=by
 rw [List.take_add_one,List.take_add_one,h,h1,h2,e]
theorem same_any (l m:List C) (a b:Value) (w:World) (ha:CRow w a l) (hb:CRow w b m) (hl:l.length<=100000) :
  Calls Tryz.prog 38 #[a,b] w fun e w'=>e=.returned (.bool (decide (l=m)))/\Below w.heap.size w w':=by
 by_cases hlen:l.length=m.length
 ·by_cases hz:l=[]
  ·subst hz
   have hm:m=[]:=List.length_eq_zero_iff.1 hlen.symm
   subst hm
   obtain⟨p,c,rfl⟩:=ha.len
   obtain⟨q,d,rfl⟩:=hb.len
   clear ha hb
   go_enter Tryz.func38,Tryz.ntmps38
   go_wp2
   go_loop [5] (fun i=>i=.int .i64 0) (fun _=>0)
   case atStart=>rfl
   case round =>
    subst hrel
    go_wp2
    go_ret
    exact⟨rfl,Below.refl _ _⟩
  ·have hzm:m≠[]:=by rintro rfl;exact hz (List.length_eq_zero_iff.1 hlen)
   obtain⟨g,off,cap,rfl,hg,hc⟩:=ha.cons hz
   obtain⟨g2,off2,cap2,rfl,hg2,hc2⟩:=hb.cons hzm
   clear ha hb
   rw [<- hlen]
   obtain⟨n,hn⟩:∃ n,n=l.length:=⟨_,rfl⟩
   have Hn:Hid (n=l.length):=hn
   have Hm:Hid (n=m.length):=hn.trans hlen
   rw [<- hn] at hl ⊢
   clear hn hlen
   go_enter Tryz.func38,Tryz.ntmps38
   go_wp2
   go_loopw [5] (fun i wr=>∃ k:Nat,k<=n/\i=.int .i64 k/\l.take k=m.take k/\Below w.heap.size w wr) (fun i _=>n - (intOf i).toNat)
   case atStart=>exact⟨0,by omega,rfl,rfl,Below.refl _ _⟩
   case round =>
    obtain⟨k,hk,rfl,htk,hB⟩:=hrel
    have HT:Hid (l.take k=m.take k):=htk
    clear htk
    by_cases hlt:k<n
    ·obtain⟨c,h1⟩:=get_some (l:=l) (k:=k) (by rw [<- Hn.out];exact hlt)
     obtain⟨d,h2⟩:=get_some (l:=m) (k:=k) (by rw [<- Hm.out];exact hlt)
     have x1:=(hc.below hB hg) k c h1
     have x2:=(hc2.below hB hg2) k d h2
     obtain⟨x1,x1'⟩:=x1
     obtain⟨x2,x2'⟩:=x2
     have H1:Hid (l[k]? = some c):=h1
     have H2:Hid (m[k]? = some d):=h2
     clear h1 h2 hc hc2
     by_cases e1:c.1.val=d.1.val
     ·by_cases e2:c.2.val=d.2.val
      ·go_wp2
       go_quiet (fail)
       go_wp2
       go_roundw
       case rel=>exact⟨k+1,by omega,by go_num,take_eq_step HT.out H1.out H2.out (c_ext e1 e2),below_drewN hB _⟩
       case measure=>simp [intOf];omega
      ·have HN:Hid (l≠m):=fun h=>by
        have:=H2.out
        rw [<- h,H1.out] at this
        exact e2 (by rw [Option.some.inj this])
       go_wp2
       go_quiet (fail)
       go_wp2
       go_ret
       exact⟨ret_bool (by simp [HN.out]),below_drewN hB _⟩
     ·have HN:Hid (l≠m):=fun h=>by
       have:=H2.out
       rw [<- h,H1.out] at this
       exact e1 (by rw [Option.some.inj this])
      go_wp2
      go_quiet (fail)
      go_wp2
      go_ret
      exact⟨ret_bool (by simp [HN.out]),below_drewN hB _⟩
    ·obtain rfl:k=n:=by omega
     have HE:Hid (l=m):=by
      have h:=HT.out
      rwa [List.take_of_length_le (by rw [<- Hn.out];exact Nat.le_refl _),List.take_of_length_le (by rw [<- Hm.out];exact Nat.le_refl _)] at h
     go_wp2
     go_ret
     exact⟨ret_bool (by simp [HE.out]),hB⟩
 ·obtain⟨p,c,rfl⟩:=ha.len
  obtain⟨q,d,rfl⟩:=hb.len
  clear ha hb
  have h:l≠m:=by rintro rfl;exact hlen rfl
  go_enter Tryz.func38,Tryz.ntmps38
  go_wp2
  go_ret
  exact⟨by simp [h],Below.refl _ _⟩
theorem index_none (a:Option Addr) (cap:Nat) (f:Value) (w:World) :
  Calls Tryz.prog 187 #[.slice a 0 cap,f] w fun e w'=>e=.returned (.int .i64 (-1))/\w'=w:=by
 go_enter Tryz.func187,Tryz.ntmps187
 go_wp2
 go_loop [8] (fun i=>i=.int .i64 0) (fun _=>0)
 case atStart=>rfl
 case round =>
  subst hrel
  go_wp2
  go_ret
  exact⟨rfl,rfl⟩
theorem has_none (a:Option Addr) (cap:Nat) (f:Value) (w:World) :
  Calls Tryz.prog 143 #[.slice a 0 cap,f] w fun e w'=>e=.returned (.bool false)/\w'=w:=by
 go_enter Tryz.func143,Tryz.ntmps143
 go_wp2_with (go_at_call 187;refine (index_none _ _ _ _).mono ?_;rintro e w' ⟨rfl,rfl⟩)
 go_ret
 exact⟨rfl,rfl⟩
theorem Tryz.laidOut:laidOutB Tryz.prog=true:=by kernel_rfl
theorem Tryz.cellsC:Tryz.prog.cellsOf 38=2:=by kernel_rfl
theorem Tryz.cellsU:Tryz.prog.cellsOf 36=1:=by kernel_rfl
theorem new_two (w:World) (x y:Value) (t:TypeId):∀ j u,[x,y][j]? = some u->(w.alloc (.cells #[x,y] t)).cell? ((⟨w.heap.size,0,none⟩:Addr).add j)=some u :=
 World.news_of_block (cs:=#[x,y]) (MapKept.heap_alloc w _).1
theorem all_take_step {l:List C} {k:Nat} {c:C} (h:(l.take k).all rightC=true) (h1:l[k]? = some c) (hc:rightC c=true):(l.take (k+1)).all rightC=true:=by
 rw [List.take_add_one,h1,List.all_append,h];simp [hc]
theorem not_all {l:List C} {k:Nat} {c:C} (h1:l[k]? = some c) (hc:rightC c=false):l.all rightC=false:=by
 rw [List.all_eq_false]
 exact⟨c,List.mem_of_getElem? h1,by simp [hc]⟩
theorem OwnsC.below {w w':World} {base:Nat} {v:Value} {l:List C} (h:OwnsC w base v l) (hb:Below w.heap.size w w'):OwnsC w' base v l:=by
 have hlt:=World.ownsRow.lt h
 obtain⟨h1,h2⟩:=h
 refine⟨h1,h2.imp id ?_⟩
 rintro⟨g,cap,cur,rfl,hg,hh,r⟩
 exact⟨g,cap,cur,rfl,hg,(hb.block g (hlt g rfl).2).trans hh,r⟩
def At (w:World) (g:Nat) (c:C):Prop:=w.cell? ⟨g,0,none⟩=some (.int .u32 (c.1.val:Int))/\w.cell? ⟨g,1,none⟩=some (.int .u32 (c.2.val:Int))/\g<w.heap.size
theorem At.below {w w':World} {g:Nat} {c:C} (h:At w g c) (hb:Below w.heap.size w w'):At w' g c :=
 ⟨(hb.cell (p:=⟨g,0,none⟩) h.2.2).trans h.1,(hb.cell (p:=⟨g,1,none⟩) h.2.2).trans h.2.1,Nat.lt_of_lt_of_le h.2.2 hb.size⟩
theorem At.alloc {w:World} {g:Nat} {c:C} (h:At w g c) (o:Obj):At (w.alloc o) g c:=h.below (below_alloc w o)
theorem At.made (w:World) (c:C) (t:TypeId):At (w.alloc (.cells #[.int .u32 (c.1.val:Int),.int .u32 (c.2.val:Int)] t)) w.heap.size c :=
 ⟨by simp [go_sem],by simp [go_sem],by simp⟩
theorem At.regrown {w:World} {g:Nat} {c:C} (h:At w g c):(∀ d os,(grow (redrawn w d) os).cell? ⟨g,0,none⟩=some (.int .u32 (c.1.val:Int)))/\∀ d os,(grow (redrawn w d) os).cell? ⟨g,1,none⟩=some (.int .u32 (c.2.val:Int)) :=
 ⟨fun d os=>cell_regrown h.1 d os,fun d os=>cell_regrown h.2.1 d os⟩
theorem refbel_q (a b:C) (w:World) (d:Nat) (os:Array Obj):Calls Tryz.prog 235 #[clV a,clV b] (grow (redrawn w d) os) fun e w''=>e=.returned (.bool (belR a b))/\∃ p:Regrown,w''=grow (redrawn w p.d) p.os :=
 Calls.regrown_of ((refbel_any a b _).mono fun _ _ h=>⟨h.1,h.2.below⟩)
theorem less_q (a b:C) (w:World) (d:Nat) (os:Array Obj):Calls Tryz.prog 205 #[clV a,clV b] (grow (redrawn w d) os) fun e w''=>e=.returned (.bool (ltC a b))/\∃ p:Regrown,w''=grow (redrawn w p.d) p.os :=
 Calls.regrown_of ((less_any a b _).mono fun _ _ h=>⟨h.1,h.2.below⟩)
theorem CellsC.regrown {w:World} {g off:Nat} {l:List C} (h:CellsC w g off l) {j:Nat} {c:C} (hj:l[j]? = some c):(∀ d os,(grow (redrawn w d) os).cell? ⟨g,off+j*2,none⟩=some (.int .u32 (c.1.val:Int)))/\∀ d os,(grow (redrawn w d) os).cell? ⟨g,off+j*2+1,none⟩=some (.int .u32 (c.2.val:Int)) :=
 ⟨fun d os=>cell_regrown (h j c hj).1 d os,fun d os=>cell_regrown (h j c hj).2 d os⟩
theorem refbel_qt (a b:C) (w:World) (d:Nat) (os:Array Obj) (h:belR a b=true):Calls Tryz.prog 235 #[clV a,clV b] (grow (redrawn w d) os) fun e w''=>e=.returned (.bool true)/\∃ p:Regrown,w''=grow (redrawn w p.d) p.os:=h ▸ refbel_q a b w d os
theorem refbel_qf (a b:C) (w:World) (d:Nat) (os:Array Obj) (h:belR a b=false):Calls Tryz.prog 235 #[clV a,clV b] (grow (redrawn w d) os) fun e w''=>e=.returned (.bool false)/\∃ p:Regrown,w''=grow (redrawn w p.d) p.os:=h ▸ refbel_q a b w d os
theorem needed_take_step {l:List C} {k:Nat} {c d:C} (h:l[k]? = some d):neededB (l.take (k+1)) c=(neededB (l.take k) c && (decide (d=c) || !belC c d)):=by
 have e:l.take (k+1)=l.take k ++ [d]:=by rw [List.take_add_one,h];rfl
 rw [e,neededB,List.all_append,neededB]
 simp
theorem not_needed {l:List C} {k:Nat} {c d:C} (h:l[k]? = some d) (hne:d≠c) (hb:belC c d=true):neededB l c=false:=by
 cases hn:neededB l c
 ·rfl
 ·exact absurd (needed_iff.1 hn d (List.mem_of_getElem? h) hb) hne
theorem needed_any (l:List C) (c:C) (v:Value) (w:World) (hv:CRow w v l) (hr:l.all rightC=true) (hl:l.length<=100000) :
  Calls Tryz.prog 204 #[v,clV c] w fun e w'=>e=.returned (.bool (neededB l c))/\Below w.heap.size w w':=by
 have hm:=At.made w c 38
 have hB:=below_alloc w (.cells #[.int .u32 (c.1.val:Int),.int .u32 (c.2.val:Int)] 38)
 by_cases hz:l=[]
 ·subst hz
  obtain⟨a0,cap,rfl⟩:=hv.len
  clear hv
  go_enter Tryz.func204,Tryz.ntmps204
  go_wp2
  go_loop [5] (fun i=>i=.int .i64 0) (fun _=>0)
  case atStart=>rfl
  case round =>
   subst hrel
   go_wp2
   go_ret
   exact⟨rfl,hB⟩
 obtain⟨g,off,cap,rfl,hg,hc⟩:=hv.cons hz
 clear hv
 replace hc:=hc.below hB hg
 replace hg:g<(w.alloc (.cells #[.int .u32 (c.1.val:Int),.int .u32 (c.2.val:Int)] 38)).heap.size:=Nat.lt_of_lt_of_le hg hB.size
 obtain⟨n,hn⟩:∃ n,n=l.length:=⟨_,rfl⟩
 have Hn:Hid (n=l.length):=hn
 have Hr:Hid (l.all rightC=true):=hr
 rw [<- hn] at hl ⊢
 clear hn hr
 go_enter Tryz.func204,Tryz.ntmps204
 go_wp2
 generalize w.alloc (.cells #[.int .u32 (c.1.val:Int),.int .u32 (c.2.val:Int)] 38)=wb at hm hB hc hg ⊢
 go_loopw [5] (fun i wr=>∃ k:Nat,k<=n/\i=.int .i64 k/\neededB (l.take k) c=true/\Below wb.heap.size wb wr) (fun i _=>n - (intOf i).toNat)
 case atStart=>exact⟨0,Nat.zero_le _,rfl,rfl,Below.refl _ _⟩
 case round =>
  obtain⟨k,hk,rfl,hnd,hny⟩:=hrel
  have HN:Hid (neededB (l.take k) c=true):=hnd
  clear hnd
  by_cases hlt:k<n
  ·obtain⟨d,hdk⟩:=get_some (l:=l) (k:=k) (by rw [<- Hn.out];exact hlt)
   obtain⟨X0,X1⟩:=(hc.below hny hg).regrown hdk
   obtain⟨A0,A1⟩:=(hm.below hny).regrown
   have HD:Hid (l[k]? = some d):=hdk
   have HS:Hid (neededB (l.take (k+1)) c=(neededB (l.take k) c && (decide (d=c) || !belC c d))):=needed_take_step hdk
   have hrd:rightC d=true:=List.all_eq_true.1 Hr.out d (List.mem_of_getElem? hdk)
   have hbr:belR c d=belC c d:=belR_eq hrd
   clear hdk hrd
   by_cases e:d=c
   ·have HT:Hid (neededB (l.take (k+1)) c=true):=HS.out.trans (by rw [HN.out];simp [e])
    subst e
    go_wp2
    refine wp_region_quiet_below (by kernel_rfl) (by kernel_rfl) ?_
    repeat (first | go_big_quiet_step (fail) | quiet_step (fail))
    refine wpQuiet_nil ?_
    intro _ hw'
    obtain⟨⟨dq,osq⟩,hw''⟩:=hw'
    subst hw''
    go_wp2
    go_roundw
    case rel=>exact⟨k+1,by omega,by go_num,HT.out,hny.trans ((below_regrown _ dq osq).mono hny.size)⟩
    case measure=>simp [intOf];omega
   ·have HE:Hid (d≠c):=e
    by_cases f0:d.1.val=c.1.val
    ·have f2:¬ d.2.val=c.2.val:=fun h=>e (c_ext f0 h)
     have f1:((d.1.val:Int) == (c.1.val:Int))=true:=by simp [f0]
     clear f0 e
     cases hb:belC c d
     ·rw [hb] at hbr
      have HT:Hid (neededB (l.take (k+1)) c=true):=HS.out.trans (by rw [HN.out,hb];simp)
      go_wp2
      refine wp_region_quiet_below (by kernel_rfl) (by kernel_rfl) ?_
      repeat (first | go_big_quiet_step ((refine refbel_qf _ _ _ _ _ ?_;with_reducible assumption)) | quiet_step ((refine refbel_qf _ _ _ _ _ ?_;with_reducible assumption)))
      refine wpQuiet_nil ?_
      intro _ hw'
      obtain⟨⟨dq,osq⟩,hw''⟩:=hw'
      subst hw''
      go_wp2
      go_roundw
      case rel=>exact⟨k+1,by omega,by go_num,HT.out,hny.trans ((below_regrown _ dq osq).mono hny.size)⟩
      case measure=>simp [intOf];omega
     ·rw [hb] at hbr
      have HT:Hid (neededB l c=false):=not_needed HD.out HE.out hb
      go_wp2
      refine wp_region_quiet_below (by kernel_rfl) (by kernel_rfl) ?_
      repeat (first | go_big_quiet_step ((refine refbel_qt _ _ _ _ _ ?_;with_reducible assumption)) | quiet_step ((refine refbel_qt _ _ _ _ _ ?_;with_reducible assumption)))
      refine wpQuiet_nil ?_
      intro _ hw'
      obtain⟨⟨dq,osq⟩,hw''⟩:=hw'
      subst hw''
      go_wp2
      go_ret
      exact⟨ret_bool HT.out.symm,chain hB (hny.trans ((below_regrown _ dq osq).mono hny.size))⟩
    ·clear e
     cases hb:belC c d
     ·rw [hb] at hbr
      have HT:Hid (neededB (l.take (k+1)) c=true):=HS.out.trans (by rw [HN.out,hb];simp)
      go_wp2
      refine wp_region_quiet_below (by kernel_rfl) (by kernel_rfl) ?_
      repeat (first | go_big_quiet_step ((refine refbel_qf _ _ _ _ _ ?_;with_reducible assumption)) | quiet_step ((refine refbel_qf _ _ _ _ _ ?_;with_reducible assumption)))
      refine wpQuiet_nil ?_
      intro _ hw'
      obtain⟨⟨dq,osq⟩,hw''⟩:=hw'
      subst hw''
      go_wp2
      go_roundw
      case rel=>exact⟨k+1,by omega,by go_num,HT.out,hny.trans ((below_regrown _ dq osq).mono hny.size)⟩
      case measure=>simp [intOf];omega
     ·rw [hb] at hbr
      have HT:Hid (neededB l c=false):=not_needed HD.out HE.out hb
      go_wp2
      refine wp_region_quiet_below (by kernel_rfl) (by kernel_rfl) ?_
      repeat (first | go_big_quiet_step ((refine refbel_qt _ _ _ _ _ ?_;with_reducible assumption)) | quiet_step ((refine refbel_qt _ _ _ _ _ ?_;with_reducible assumption)))
      refine wpQuiet_nil ?_
      intro _ hw'
      obtain⟨⟨dq,osq⟩,hw''⟩:=hw'
      subst hw''
      go_wp2
      go_ret
      exact⟨ret_bool HT.out.symm,chain hB (hny.trans ((below_regrown _ dq osq).mono hny.size))⟩
  ·obtain rfl:k=n:=by omega
   have HT:Hid (neededB l c=true):=by
    have h:=HN.out
    rwa [List.take_of_length_le (by rw [<- Hn.out];exact Nat.le_refl _)] at h
   go_wp2
   go_ret
   exact⟨ret_bool HT.out.symm,chain hB hny⟩
theorem less_qt (a b:C) (w:World) (d:Nat) (os:Array Obj) (h:ltC a b=true):Calls Tryz.prog 205 #[clV a,clV b] (grow (redrawn w d) os) fun e w''=>e=.returned (.bool true)/\∃ p:Regrown,w''=grow (redrawn w p.d) p.os:=h ▸ less_q a b w d os
theorem less_qf (a b:C) (w:World) (d:Nat) (os:Array Obj) (h:ltC a b=false):Calls Tryz.prog 205 #[clV a,clV b] (grow (redrawn w d) os) fun e w''=>e=.returned (.bool false)/\∃ p:Regrown,w''=grow (redrawn w p.d) p.os:=h ▸ less_q a b w d os
structure OutIs (l:List C) (k:Nat) (out:List C):Prop where
 rises:risesC out
 mem:∀ y,y∈out↔y∈l.take k/\neededB l y=true
 len:out.length<=k
theorem mem_take_step {l:List C} {k:Nat} {c y:C} (h:l[k]? = some c):y∈l.take (k+1)↔y∈l.take k\/y=c:=by
 have e:l.take (k+1)=l.take k ++ [c]:=by rw [List.take_add_one,h];rfl
 rw [e];simp
theorem OutIs.start (l:List C):OutIs l 0 []:=⟨List.Pairwise.nil,fun y=>by simp,Nat.le_refl _⟩
theorem OutIs.skip {l out:List C} {k:Nat} {c:C} (h:OutIs l k out) (hk:l[k]? = some c) (hn:neededB l c=false):OutIs l (k+1) out :=
 ⟨h.rises,fun y=>by
  rw [h.mem,mem_take_step hk]
  constructor
  ·rintro⟨h1,h2⟩;exact⟨.inl h1,h2⟩
  ·rintro⟨h1 | rfl,h2⟩
   ·exact⟨h1,h2⟩
   ·exact absurd h2 (by rw [hn];simp),Nat.le_succ_of_le h.len⟩
theorem OutIs.there {l out:List C} {k:Nat} {c:C} (h:OutIs l k out) (hk:l[k]? = some c) (hc:c∈out):OutIs l (k+1) out :=
 ⟨h.rises,fun y=>by
  rw [h.mem,mem_take_step hk]
  constructor
  ·rintro⟨h1,h2⟩;exact⟨.inl h1,h2⟩
  ·rintro⟨h1 | rfl,h2⟩
   ·exact⟨h1,h2⟩
   ·exact (h.mem y).1 hc,Nat.le_succ_of_le h.len⟩
theorem rises_insert {out:List C} {c:C} {j:Nat} (h:risesC out) (h1:∀ d∈out.take j,ltC d c=true) (h2:∀ d∈out.drop j,ltC c d=true):risesC (out.take j ++ [c] ++ out.drop j):=by
 unfold risesC at *
 have h0:=h
 rw [<- List.take_append_drop j out,List.pairwise_append] at h0
 rw [List.pairwise_append,List.pairwise_append]
 refine⟨⟨h0.1,List.pairwise_singleton _ _,fun a ha b hb=>?_⟩,h0.2.1,fun a ha b hb=>?_⟩
 ·rw [List.mem_singleton.1 hb];exact h1 a ha
 ·rcases List.mem_append.1 ha with ha|ha
  ·exact h0.2.2 a ha b hb
  ·rw [List.mem_singleton.1 ha];exact h2 b hb
theorem OutIs.put {l out:List C} {k j:Nat} {c:C} (h:OutIs l k out) (hk:l[k]? = some c) (hn:neededB l c=true) (h1:∀ d∈out.take j,ltC d c=true) (h2:∀ d∈out.drop j,ltC c d=true):OutIs l (k+1) (out.take j ++ [c] ++ out.drop j) :=
 ⟨rises_insert h.rises h1 h2,fun y=>by
  have e:y∈out.take j ++ [c] ++ out.drop j↔y∈out\/y=c:=by
   have:=List.take_append_drop j out
   constructor
   ·intro hy
    rcases List.mem_append.1 hy with hy|hy
    ·rcases List.mem_append.1 hy with hy|hy
     ·exact .inl (List.mem_of_mem_take hy)
     ·exact .inr (List.mem_singleton.1 hy)
    ·exact .inl (List.mem_of_mem_drop hy)
   ·rintro (hy | rfl)
    ·rw [<- this] at hy
     rcases List.mem_append.1 hy with hy|hy
     ·exact List.mem_append_left _ (List.mem_append_left _ hy)
     ·exact List.mem_append_right _ hy
    ·exact List.mem_append_left _ (List.mem_append_right _ (by simp))
  rw [e,h.mem,mem_take_step hk]
  constructor
  ·rintro (⟨a,b⟩ | rfl)
   ·exact⟨.inl a,b⟩
   ·exact⟨.inr rfl,hn⟩
  ·rintro⟨a | rfl,b⟩
   ·exact .inl ⟨a,b⟩
   ·exact .inr rfl,by
  have:=h.len
  simp
  omega⟩
theorem drop_gt {out:List C} {c d:C} {j:Nat} (h:risesC out) (hd:out[j]? = some d) (hlt:ltC d c=false) (hne:d≠c):∀ y∈out.drop j,ltC c y=true:=by
 have hcd:ltC c d=true:=by
  cases e:ltC c d
  ·exact absurd (ltC_total hlt e) hne
  ·rfl
 intro y hy
 obtain⟨hj,rfl⟩:=List.getElem?_eq_some_iff.1 hd
 rw [List.drop_eq_getElem_cons hj] at hy
 rcases List.mem_cons.1 hy with rfl|hy
 ·exact hcd
 ·have h0:=h
  unfold risesC at h0
  rw [<- List.take_append_drop j out,List.pairwise_append,List.drop_eq_getElem_cons hj] at h0
  exact ltC_trans hcd ((List.pairwise_cons.1 h0.2.1).1 y hy)
theorem OutIs.least {l out:List C} (h:OutIs l l.length out):IsLeast l out:=⟨h.rises,fun c=>by rw [h.mem,List.take_length]⟩
theorem take_lt_step {out:List C} {c d:C} {j:Nat} (h:∀ y∈out.take j,ltC y c=true) (hd:out[j]? = some d) (hlt:ltC d c=true):∀ y∈out.take (j+1),ltC y c=true:=fun y hy=>by
 rcases (mem_take_step hd).1 hy with h1|rfl
 ·exact h y h1
 ·exact hlt
theorem run_append_nil (n cap:Nat) (hn:n<=cap) (ad:Addr) (ty:TypeId) (w:World):(Builtin.append_ #[22,22] ty #[.slice (some ad) n cap,.slice none 0 0]).run Tryz.prog w=.ok (.slice (some ad) n cap) w:=by
 simp [Builtin.append_,run_underlying Tryz.underlying22,Result.andThen,Builtin.lenOf,Builtin.firstCells,storeCells,hn]
theorem step_append_C {ops:Array Oper} {o:Oper} {a:Act} {w:World} {K:Act->World->Prop} {Q:Exit->Act->World->Prop} {E:Prop}
  (hgd:o.guard=none) (s x:Operand) (ho:o.op=.call { callee:=.builtin .append,args:=#[s,x],argTypes:=#[22,22] })
  (base:Nat) (i:TypeInfo) (hi:Tryz.prog.info? 38=some i) (hz:i.zero=some (.agg #[.int .u32 0,.int .u32 0])) (hsize:i.size=2) (hby:i.bytes=8)
  (v:Value) (n:Nat) (xs:List Value) (hs:a.eval s=v) (hown:w.ownsRow base 38 2 v n xs)
  (ad:Addr) (m c:Nat) (news:List Value) (hx:a.eval x=.slice (some ad) m c) (hl:news.length=m*2) (hnews:∀ j u,news[j]? = some u->w.cell? (ad.add j)=some u) (h1:∀ u∈news,u.oneCell'=true)
  (h63:n+m<=maxLen) (hbytes:(n+m) * 8<=140737488355328) (hbase:base<=w.heap.size)
  (h:∀ v' w',w'.ownsRow base 38 2 v' (n+m) (xs++news)->w.grownBy w' v.ownBlock->K (a.put o.dst v') w') :
  if Region.wanted o (yielded ops a.tmps)=true then Oper.wp Tryz.prog o a w K Q else E:=by
 have hw:Region.wanted o (yielded ops a.tmps)=true:=by simp [Region.wanted,hgd]
 rw [if_pos hw]
 obtain⟨v',w',hrun,r1,r2,_⟩:=run_append_own (P:=Tryz.prog) w base 22 o.type 38 i _ 2 8 Tryz.underlying22 hi hz hsize hby rfl (by decide) v n xs hown ad m c news hl hnews h1 h63 hbytes hbase
 unfold Oper.wp
 simp [execOp,ho,resolve,invoke,builtin,hs,hx,hrun,Result.andThen]
 exact h v' w' r1 r2
theorem step_append_N {ops:Array Oper} {o:Oper} {a:Act} {w:World} {K:Act->World->Prop} {Q:Exit->Act->World->Prop} {E:Prop}
  (hgd:o.guard=none) (s x:Operand) (ho:o.op=.call { callee:=.builtin .append,args:=#[s,x],argTypes:=#[22,22] })
  (ad:Addr) (n cap:Nat) (hn:n<=cap) (hs:a.eval s=.slice (some ad) n cap) (hx:a.eval x=.slice none 0 0)
  (h:K (a.put o.dst (.slice (some ad) n cap)) w) :
  if Region.wanted o (yielded ops a.tmps)=true then Oper.wp Tryz.prog o a w K Q else E:=by
 have hw:Region.wanted o (yielded ops a.tmps)=true:=by simp [Region.wanted,hgd]
 rw [if_pos hw]
 have hrun:=run_append_nil n cap hn ad o.type w
 unfold Oper.wp
 simp [execOp,ho,resolve,invoke,builtin,hs,hx,hrun,Result.andThen]
 exact h
theorem news_cells {W:World} {go o:Nat} {l':List C} (h:CellsC W go o l'):∀ t u,(flat l')[t]? = some u->W.cell? ((⟨go,o,none⟩:Addr).add t)=some u:=by
 intro t u hu
 rw [Addr.add_lit]
 have hlt:t<(flat l').length:=by
  rcases Nat.lt_or_ge t (flat l').length with h1|h1
  ·exact h1
  ·rw [List.getElem?_eq_none h1] at hu;exact absurd hu (by simp)
 rw [flat_length] at hlt
 have hj:t / 2<l'.length:=by omega
 have hg:=h (t / 2) _ (List.getElem?_eq_getElem hj)
 rcases Nat.mod_two_eq_zero_or_one t with hm|hm
 ·have e3:t=t / 2*2:=by omega
  rw [e3,flat_get0,List.getElem?_eq_getElem hj] at hu
  have hu:=Option.some.inj hu
  rw [e3,<- hu]
  exact hg.1
 ·have e3:t=t / 2*2+1:=by omega
  rw [e3,flat_get1,List.getElem?_eq_getElem hj] at hu
  have hu:=Option.some.inj hu
  rw [e3,<- hu,<- Nat.add_assoc]
  exact hg.2
theorem CellsC.take {W:World} {go o:Nat} {l':List C} (h:CellsC W go o l') (s:Nat):CellsC W go o (l'.take s):=fun j c hj=>by
 rw [List.getElem?_take] at hj
 split at hj
 ·exact h j c hj
 ·cases hj
theorem CellsC.drop {W:World} {go:Nat} {l':List C} (h:CellsC W go 0 l') (s:Nat):CellsC W go (s*2) (l'.drop s):=fun j c hj=>by
 rw [List.getElem?_drop] at hj
 have:=h (s+j) c hj
 have e1:0+(s+j) * 2=s*2+j*2:=by omega
 rw [e1] at this
 exact this
theorem flat_take_len (l':List C) {s q:Nat} (hq:q=l'.length) (hs:s<=q):(flat (l'.take s)).length=s*2:=by
 rw [flat_length,List.length_take];omega
theorem flat_drop_len (l':List C) {s q:Nat} (hq:q=l'.length) (hs:s<=q):(flat (l'.drop s)).length=(q - s) * 2:=by
 rw [flat_length,List.length_drop,hq]
theorem empty_row (W:World) (base:Nat) (hb:base<=W.heap.size):(W.alloc (.cells #[] 38)).ownsRow base 38 2 (.slice (some ⟨W.heap.size,0,none⟩) 0 0) 0 [] :=
 World.ownsRow_lit (e:=38) (size:=2) W #[] 0 hb (by unfold maxLen;omega) rfl
theorem empty_row2 (w:World) (o:Obj):((w.drew.alloc o).alloc (.cells #[] 38)).ownsRow w.heap.size 38 2 (.slice (some ⟨w.heap.size+1,0,none⟩) 0 0) 0 []:=by
 have h:=empty_row (w.drew.alloc o) w.heap.size (by simp)
 have e:(w.drew.alloc o).heap.size=w.heap.size+1:=by simp
 rw [e] at h
 exact h
theorem own_put0 {W:World} {base base' s q:Nat} {v:Value} {out:List C} {c:C} (h:W.ownsRow base 38 2 v (0+s+1+0) ([] ++ flat (out.take s) ++ encC c ++ [])) (hq:q=out.length) (hs:s<=q) (hd:out.drop s=[]) (hb:base'<=base):OwnsC W base' v (out.take s ++ [c] ++ out.drop s):=by
 have e1:(out.take s ++ [c] ++ out.drop s).length=0+s+1+0:=by rw [hd];simp;omega
 have e2:flat (out.take s ++ [c] ++ out.drop s)=[] ++ flat (out.take s) ++ encC c ++ []:=by rw [hd,flat_append,flat_append,flat_one];rfl
 unfold OwnsC
 rw [e1,e2]
 exact World.ownsRow.mono h hb
theorem own_put {W:World} {base base' s q:Nat} {v:Value} {out:List C} {c:C} (h:W.ownsRow base 38 2 v (0+s+1+(q - s)) ([] ++ flat (out.take s) ++ encC c++flat (out.drop s))) (hq:q=out.length) (hs:s<=q) (hb:base'<=base):OwnsC W base' v (out.take s ++ [c] ++ out.drop s):=by
 have e1:(out.take s ++ [c] ++ out.drop s).length=0+s+1+(q - s):=by simp;omega
 have e2:flat (out.take s ++ [c] ++ out.drop s)=[] ++ flat (out.take s) ++ encC c++flat (out.drop s):=by rw [flat_append,flat_append,flat_one];rfl
 unfold OwnsC
 rw [e1,e2]
 exact World.ownsRow.mono h hb
theorem own_one {W:World} {base base':Nat} {v:Value} {c:C} (h:W.ownsRow base 38 2 v (0+1) ([] ++ encC c)) (hb:base'<=base):OwnsC W base' v ([] ++ [c] ++ []):=by
 have e2:flat ([] ++ [c] ++ [])=[] ++ encC c:=by simp [flat_one]
 unfold OwnsC
 rw [e2]
 exact World.ownsRow.mono h hb
theorem row_cap {w:World} {base e size g n cap:Nat} {xs:List Value} (h:w.ownsRow base e size (.slice (some ⟨g,0,none⟩) n cap) n xs):n<=cap:=by
 rcases h.2 with ⟨h1,_⟩|⟨g2,cap2,cur,h1,_,_,h2,_⟩
 ·cases h1
 ·injection h1 with _ _ h3
  omega
theorem new_at1 (w:World) (x y:Value) (o:Obj):∀ t u,[x,y][t]? = some u->((w.drew.alloc (.cells #[x,y] 38)).alloc o).cell? ((⟨w.heap.size,0,none⟩:Addr).add t)=some u:=fun t u h=>by
 have h1:=new_two w.drew x y 38 t u h
 have h2:(⟨w.heap.size,0,none⟩:Addr).add t=⟨w.heap.size,t,none⟩:=by rw [Addr.add_lit,Nat.zero_add]
 have h3:(⟨w.drew.heap.size,0,none⟩:Addr).add t=⟨w.heap.size,t,none⟩:=by rw [Addr.add_lit,Nat.zero_add];rfl
 rw [h3] at h1
 rw [h2]
 exact Lib.cell?_alloc_some _ h1
theorem new_at2 (w:World) (x y:Value) (o:Obj):∀ t u,[x,y][t]? = some u->((w.drew.alloc o).alloc (.cells #[x,y] 38)).cell? ((⟨w.heap.size+1,0,none⟩:Addr).add t)=some u:=fun t u h=>by
 have h1:=new_two (w.drew.alloc o) x y 38 t u h
 have e:(w.drew.alloc o).heap.size=w.heap.size+1:=by simp
 rw [e] at h1
 exact h1
theorem far_two {W W':World} {row:Option Nat} {B:Nat} {xs:List Value} (hg:W.grownBy W' row) (hlt:B<W.heap.size) (hne:some B≠row) (h:∀ t u,xs[t]? = some u->W.cell? ((⟨B,0,none⟩:Addr).add t)=some u):∀ t u,xs[t]? = some u->W'.cell? ((⟨B,0,none⟩:Addr).add t)=some u:=fun t u hu=>by
 have h1:=h t u hu
 rw [Addr.add_lit] at h1 ⊢
 exact (hg.cell_far ⟨B,0+t,none⟩ hlt hne).trans h1
theorem two_next {B g off k:Nat} {c:C} {W W':World} (hb:Below B W W') (hg:g<B) (x0:W.cell? ⟨g,off+k*2,none⟩=some (.int .u32 (c.1.val:Int))) (x1:W.cell? ⟨g,off+k*2+1,none⟩=some (.int .u32 (c.2.val:Int))) :
  W'.cell? ⟨g,off+k*2,none⟩=some (.int .u32 (c.1.val:Int))/\W'.cell? ⟨g,off+k*2+1,none⟩=some (.int .u32 (c.2.val:Int)) :=
 ⟨(hb.cell (p:=⟨g,off+k*2,none⟩) hg).trans x0,(hb.cell (p:=⟨g,off+k*2+1,none⟩) hg).trans x1⟩
theorem refleast_any (l:List C) (v:Value) (w:World) (hv:CRow w v l) (hl:l.length<=100000) :
  Calls Tryz.prog 163 #[v] w fun e w'=>∃ v' M er,e=.returned (.tuple #[v',.int .i64 er])/\LeastIs l M er/\OwnsC w' w.heap.size v' M/\Below w.heap.size w w':=by
 obtain⟨i0,hi,hz0,hz1,hz2⟩:=info_parts Tryz.infoC
 by_cases hz:l=[]
 ·subst hz
  obtain⟨a0,cap,rfl⟩:=hv.len
  clear hv
  go_enter Tryz.func163,Tryz.ntmps163
  go_wp2
  go_loop [4] (fun i=>i=.int .i64 0) (fun _=>0)
  case atStart=>rfl
  case round =>
   subst hrel
   go_wp2
   go_loop [5,6] (fun v i=>v=.slice none 0 0/\i=.int .i64 0) (fun _ _=>0)
   case atStart=>exact⟨rfl,rfl⟩
   case round =>
    obtain⟨rfl,rfl⟩:=hrel
    go_wp2
    go_ret2
    exact⟨_,[],0,rfl,.inr ⟨rfl,[],(OutIs.start []).least,.inl ⟨by simp,rfl,rfl⟩⟩,World.ownsRow_nil _ _ _ _,Below.refl _ _⟩
 have hv0:=hv
 obtain⟨g,off,cap,rfl,hg,hc⟩:=hv.cons hz
 clear hv
 obtain⟨n,hn⟩:∃ n,n=l.length:=⟨_,rfl⟩
 have Hn:Hid (n=l.length):=hn
 have hl1:l.length<=100000:=by omega
 rw [<- hn] at hl hv0 ⊢
 clear hn
 go_enter Tryz.func163,Tryz.ntmps163
 go_wp2
 go_loopw [4] (fun i wr=>∃ k:Nat,k<=n/\i=.int .i64 k/\(l.take k).all rightC=true/\Below w.heap.size w wr) (fun i _=>n - (intOf i).toNat)
 case atStart=>exact⟨0,Nat.zero_le _,rfl,rfl,Below.refl _ _⟩
 case round =>
  obtain⟨k,hk,rfl,hall,hnx⟩:=hrel
  have HA:Hid ((l.take k).all rightC=true):=hall
  clear hall
  by_cases hlt:k<n
  ·obtain⟨c,hck⟩:=get_some (l:=l) (k:=k) (by rw [<- Hn.out];exact hlt)
   obtain⟨x0,x1⟩:=(hc.below hnx hg) k c hck
   have HC:Hid (l[k]? = some c):=hck
   clear hck
   cases hrc:rightC c
   ·go_wp2_with (go_at_call 203;refine (refcright_any _ _).mono ?_;rintro e w2 ⟨rfl,hG⟩;rw [hrc])
    go_ret2
    exact⟨_,[],2,rfl,.inl ⟨not_all HC.out hrc,rfl,rfl⟩,World.ownsRow_nil _ _ _ _,chain hnx hG.below⟩
   ·go_wp2_with (go_at_call 203;refine (refcright_any _ _).mono ?_;rintro e w2 ⟨rfl,hG⟩;rw [hrc])
    go_roundw
    case rel=>exact⟨k+1,by omega,by go_num,all_take_step HA.out HC.out hrc,chain hnx hG.below⟩
    case measure=>simp [intOf];omega
  ·obtain rfl:k=n:=by omega
   have hr:l.all rightC=true:=by
    have h:=HA.out
    rwa [List.take_of_length_le (by rw [<- Hn.out];exact Nat.le_refl _)] at h
   have HR:Hid (l.all rightC=true):=hr
   have cN:=fun c W hb=>needed_any l c _ W (hv0.below hb) hr hl1
   clear hr
   go_wp2
   go_loopw [5,6] (fun v i wr=>∃ (j:Nat) (out:List C),j<=k/\i=.int .i64 j/\OwnsC wr w.heap.size v out/\OutIs l j out/\Below w.heap.size w wr) (fun _ i _=>k - (intOf i).toNat)
   case atStart=>exact⟨0,[],Nat.zero_le _,rfl,World.ownsRow_nil _ _ _ _,OutIs.start l,hnx⟩
   case round =>
    obtain⟨j,out,hj,rfl,hrow,hout,hny⟩:=hrel
    have hlen:=hout.len
    have HO:Hid (OutIs l j out):=hout
    clear hout
    by_cases hlt2:j<k
    ·obtain⟨c,hcj⟩:=get_some (l:=l) (k:=j) (by rw [<- Hn.out];exact hlt2)
     obtain⟨x0,x1⟩:=(hc.below hny hg) j c hcj
     have HC:Hid (l[j]? = some c):=hcj
     clear hcj
     cases hnd:neededB l c
     ·have HS:Hid (OutIs l (j+1) out):=HO.out.skip HC.out hnd
      go_wp2_with (go_at_call 204;refine (cN _ _ hny).mono ?_;rintro e w2 ⟨rfl,hB2⟩;rw [hnd])
      go_roundw
      case rel=>exact⟨j+1,out,by omega,by go_num,OwnsC.below hrow hB2,HS.out,chain hny hB2⟩
      case measure=>simp [intOf];omega
     ·have HND:Hid (neededB l c=true):=hnd
      go_wp2_with (go_at_call 204;refine (cN _ _ hny).mono ?_;rintro e w2 ⟨rfl,hB2⟩;rw [hnd])
      clear hnd
      replace hrow:=OwnsC.below hrow hB2
      have hny2:=chain hny hB2
      replace x0:=(hB2.cell (p:=⟨g,off+j*2,none⟩) (Nat.lt_of_lt_of_le hg hny.size)).trans x0
      replace x1:=(hB2.cell (p:=⟨g,off+j*2+1,none⟩) (Nat.lt_of_lt_of_le hg hny.size)).trans x1
      have hg2:g<w2.heap.size:=Nat.lt_of_lt_of_le hg hny2.size
      rcases hrow.form with ⟨rfl,rfl⟩|⟨go,capo,rfl,hgo1,hgo2,hco⟩
      ·go_loopw [7] (fun i wr=>i=.int .i64 0/\Below w2.heap.size w2 wr) (fun _ _=>0)
       case atStart=>exact⟨rfl,Below.refl _ _⟩
       case round =>
        obtain⟨rfl,hnz⟩:=hrel
        go_wp2
        refine wp_region_quiet_below (by kernel_rfl) (by kernel_rfl) ?_
        repeat (first | go_big_quiet_step (fail) | quiet_step (fail))
        refine wpQuiet_nil ?_
        intro _ hw'
        obtain⟨⟨dq,osq⟩,hw''⟩:=hw'
        subst hw''
        go_wp2
        have hzy:Below w2.heap.size w2 (grow (redrawn wr dq) osq):=hnz.trans ((below_regrown wr dq osq).mono hnz.size)
        generalize grow (redrawn wr dq) osq=wy at hzy ⊢
        refine wp_region_quiet_below (by kernel_rfl) (by kernel_rfl) ?_
        repeat (first | go_big_quiet_step (fail) | quiet_step (fail))
        refine wpQuiet_nil ?_
        intro _ hw'
        obtain⟨⟨dq2,osq2⟩,hw''⟩:=hw'
        subst hw''
        go_wp2
        have hzz:Below w2.heap.size w2 (grow (redrawn wy dq2) osq2):=chain hzy (below_regrown wy dq2 osq2)
        generalize grow (redrawn wy dq2) osq2=wi at hzz ⊢
        have hnyi:=chain hny2 hzz
        have hgi:g<wi.heap.size:=Nat.lt_of_lt_of_le hg2 hzz.size
        have x0i:=(hzz.cell (p:=⟨g,off+j*2,none⟩) hg2).trans x0
        have x1i:=(hzz.cell (p:=⟨g,off+j*2+1,none⟩) hg2).trans x1
        have Bd:Below wi.heap.size wi wi.drew:=below_drewN (Below.refl _ wi) 1
        go_region_held3 (fun w'=>w'.cell? ⟨g,off+j*2,none⟩=some (.int .u32 (c.1.val:Int))/\w'.cell? ⟨g,off+j*2+1,none⟩=some (.int .u32 (c.2.val:Int))) (first | (exact two_next hBk hgi x0i x1i) | go_keep)
         (first
          | (refine step_append_N rfl (.tmp 65) (.tmp 68) rfl _ 0 0 (Nat.le_refl _) rfl rfl ?_)
          | (refine step_append_C rfl (.tmp 69) (.tmp 74) rfl wi.heap.size i0 hi hz0 hz1 hz2 (.slice (some ⟨wi.drew.heap.size,0,none⟩) 0 0) 0 [] rfl (World.ownsRow.alloc (empty_row wi.drew wi.heap.size (Nat.le_refl _)) (.cells #[.int .u32 (c.1.val:Int),.int .u32 (c.2.val:Int)] 38)) ⟨wi.heap.size+1,0,none⟩ 1 1 (encC c) rfl rfl (new_at2 wi _ _ _) (flat_one c ▸ flat_oneCell [c]) (by unfold maxLen;omega) (by omega) ((Bd.alloc (Nat.le_refl _) (.cells #[] 38)).alloc (by simp) (.cells #[.int .u32 (c.1.val:Int),.int .u32 (c.2.val:Int)] 38)).size ?_;intro v75 w75 hown75 hgrow75;have hBk:Below wi.heap.size wi w75:=((Bd.alloc (Nat.le_refl _) (.cells #[] 38)).alloc (by simp) (.cells #[.int .u32 (c.1.val:Int),.int .u32 (c.2.val:Int)] 38)).grown hgrow75 ((Bd.alloc (Nat.le_refl _) (.cells #[] 38)).alloc (by simp) (.cells #[.int .u32 (c.1.val:Int),.int .u32 (c.2.val:Int)] 38)).size (fun i h=>by cases h;simp);obtain⟨g75,cap75,rfl,_,_⟩:=World.ownsRow.form hown75 (by omega);have hcap:=row_cap hown75)
          | (refine step_append_C rfl (.tmp 69) (.tmp 74) rfl wi.heap.size i0 hi hz0 hz1 hz2 (.slice (some ⟨wi.heap.size+1,0,none⟩) 0 0) 0 [] rfl (empty_row2 wi (.cells #[.int .u32 (c.1.val:Int),.int .u32 (c.2.val:Int)] 38)) ⟨wi.heap.size,0,none⟩ 1 1 (encC c) rfl rfl (new_at1 wi _ _ _) (flat_one c ▸ flat_oneCell [c]) (by unfold maxLen;omega) (by omega) ((Bd.alloc (Nat.le_refl _) (.cells #[.int .u32 (c.1.val:Int),.int .u32 (c.2.val:Int)] 38)).alloc (by simp) (.cells #[] 38)).size ?_;intro v75 w75 hown75 hgrow75;have hBk:Below wi.heap.size wi w75:=((Bd.alloc (Nat.le_refl _) (.cells #[.int .u32 (c.1.val:Int),.int .u32 (c.2.val:Int)] 38)).alloc (by simp) (.cells #[] 38)).grown hgrow75 ((Bd.alloc (Nat.le_refl _) (.cells #[.int .u32 (c.1.val:Int),.int .u32 (c.2.val:Int)] 38)).alloc (by simp) (.cells #[] 38)).size (fun i h=>by cases h;simp);obtain⟨g75,cap75,rfl,_,_⟩:=World.ownsRow.form hown75 (by omega);have hcap:=row_cap hown75)
          | (refine step_append_N rfl (.tmp 75) (.tmp 78) rfl _ _ _ hcap rfl rfl ?_))
        all_goals
         have HS:Hid (OutIs l (j+1) ([] ++ [c] ++ [])):=HO.out.put (j:=0) HC.out HND.out (fun d hd=>by simp at hd) (fun d hd=>by simp at hd)
         have hfin:=own_one hown75 hnyi.size
         go_wp2
         go_roundw
         case rel=>exact⟨j+1,_,by omega,by go_num,hfin,HS.out,chain hnyi hBk⟩
         case measure=>simp [intOf];omega
      ·obtain⟨q,hq⟩:∃ q,q=out.length:=⟨_,rfl⟩
       have Hq:Hid (q=out.length):=hq
       have hrow':=hrow
       rw [<- hq] at hlen hrow' ⊢
       clear hq
       go_loopw [7] (fun i wr=>∃ s:Nat,s<=q/\i=.int .i64 s/\(∀ d∈out.take s,ltC d c=true)/\Below w2.heap.size w2 wr) (fun i _=>q - (intOf i).toNat)
       case atStart=>exact⟨0,Nat.zero_le _,rfl,fun d hd=>by simp at hd,Below.refl _ _⟩
       case round =>
        obtain⟨s,hs,rfl,hls,hnz⟩:=hrel
        have HL:Hid (∀ d∈out.take s,ltC d c=true):=hls
        clear hls
        by_cases hlt3:s<q
        ·obtain⟨d,hds⟩:=get_some (l:=out) (k:=s) (by rw [<- Hq.out];exact hlt3)
         have HD:Hid (out[s]? = some d):=hds
         obtain⟨D0,D1⟩:=(hco.below hnz hgo2).regrown hds
         simp only [Nat.zero_add] at D0 D1
         have E0:=fun dd os=>cell_regrown ((hnz.cell (p:=⟨g,off+j*2,none⟩) hg2).trans x0) dd os
         have E1:=fun dd os=>cell_regrown ((hnz.cell (p:=⟨g,off+j*2+1,none⟩) hg2).trans x1) dd os
         clear hds
         cases hb:ltC d c
         ·go_wp2
          refine wp_region_quiet_below (by kernel_rfl) (by kernel_rfl) ?_
          repeat (first | go_big_quiet_step ((refine less_qf _ _ _ _ _ ?_;with_reducible assumption)) | quiet_step ((refine less_qf _ _ _ _ _ ?_;with_reducible assumption)))
          refine wpQuiet_nil ?_
          intro _ hw'
          obtain⟨⟨dq,osq⟩,hw''⟩:=hw'
          subst hw''
          go_wp2
          have hzy:Below w2.heap.size w2 (grow (redrawn wr dq) osq):=hnz.trans ((below_regrown wr dq osq).mono hnz.size)
          generalize grow (redrawn wr dq) osq=wy at hzy ⊢
          clear D0 D1 E0 E1
          obtain⟨D0,D1⟩:=(hco.below hzy hgo2).regrown HD.out
          simp only [Nat.zero_add] at D0 D1
          have E0:=fun dd os=>cell_regrown ((hzy.cell (p:=⟨g,off+j*2,none⟩) hg2).trans x0) dd os
          have E1:=fun dd os=>cell_regrown ((hzy.cell (p:=⟨g,off+j*2+1,none⟩) hg2).trans x1) dd os
          have hjq:((s:Int) == (q:Int))=false:=by simp;omega
          by_cases e:d=c
          ·have HS:Hid (OutIs l (j+1) out):=HO.out.there HC.out (by rw [<- e];exact List.mem_of_getElem? HD.out)
           subst e
           go_wp2
           refine wp_region_quiet_below (by kernel_rfl) (by kernel_rfl) ?_
           repeat (first | go_big_quiet_step (fail) | quiet_step (fail))
           refine wpQuiet_nil ?_
           intro _ hw'
           obtain⟨⟨dq2,osq2⟩,hw''⟩:=hw'
           subst hw''
           go_wp2
           go_roundw
           case rel=>exact⟨j+1,out,by omega,by go_num,OwnsC.below (OwnsC.below hrow' hzy) (below_regrown wy dq2 osq2),HS.out,chain (chain hny2 hzy) (below_regrown wy dq2 osq2)⟩
           case measure=>simp [intOf];omega
          ·have HG:Hid (∀ y∈out.drop s,ltC c y=true):=drop_gt HO.out.rises HD.out hb e
           by_cases f0:d.1.val=c.1.val
           ·have f2:¬ d.2.val=c.2.val:=fun h=>e (c_ext f0 h)
            have f1:((d.1.val:Int) == (c.1.val:Int))=true:=by simp [f0]
            clear f0 e
            go_wp2
            refine wp_region_quiet_below (by kernel_rfl) (by kernel_rfl) ?_
            repeat (first | go_big_quiet_step (fail) | quiet_step (fail))
            refine wpQuiet_nil ?_
            intro _ hw'
            obtain⟨⟨dq2,osq2⟩,hw''⟩:=hw'
            subst hw''
            go_wp2
            clear D0 D1 E0 E1
            have hcs:¬ capo=s:=by have h:=row_cap hrow;rw [<- Hq.out] at h;omega
            have hzz:Below w2.heap.size w2 (grow (redrawn wy dq2) osq2):=chain hzy (below_regrown wy dq2 osq2)
            generalize grow (redrawn wy dq2) osq2=wi at hzz ⊢
            have hnyi:=chain hny2 hzz
            have hrowi:=OwnsC.below hrow' hzz
            have hcoi:=hco.below hzz hgo2
            have hgoi:go<wi.heap.size:=Nat.lt_of_lt_of_le hgo2 hzz.size
            have hgi:g<wi.heap.size:=Nat.lt_of_lt_of_le hg2 hzz.size
            have hqc:q<=capo:=by have h:=row_cap hrow;rw [<- Hq.out] at h;exact h
            have hsc:(s:Int)<=(capo:Int):=by omega
            have hs0:(0:Int)<=(s:Int):=by omega
            have x0i:=(hzz.cell (p:=⟨g,off+j*2,none⟩) hg2).trans x0
            have x1i:=(hzz.cell (p:=⟨g,off+j*2+1,none⟩) hg2).trans x1
            have Bd:Below wi.heap.size wi wi.drew:=below_drewN (Below.refl _ wi) 1
            go_region_held3 (fun w'=>w'.cell? ⟨g,off+j*2,none⟩=some (.int .u32 (c.1.val:Int))/\w'.cell? ⟨g,off+j*2+1,none⟩=some (.int .u32 (c.2.val:Int))) (first | (exact two_next hBk hgi x0i x1i) | go_keep)
             (first
              | (refine step_append_C rfl (.tmp 65) (.tmp 68) rfl wi.heap.size i0 hi hz0 hz1 hz2 (.slice (some ⟨wi.drew.heap.size,0,none⟩) 0 0) 0 [] rfl (empty_row wi.drew wi.heap.size (Nat.le_refl _)) ⟨go,0,none⟩ s _ (flat (out.take s)) rfl (flat_take_len out Hq.out hs) (news_cells ((hcoi.below (Bd.alloc (Nat.le_refl _) (.cells #[] 38)) hgoi).take s)) (flat_oneCell _) (by unfold maxLen;omega) (by omega) ((Bd.alloc (Nat.le_refl _) (.cells #[] 38))).size ?_;intro v69 w69 hown69 hgrow69;have hBk:Below wi.heap.size wi w69:=((Bd.alloc (Nat.le_refl _) (.cells #[] 38))).grown hgrow69 ((Bd.alloc (Nat.le_refl _) (.cells #[] 38))).size (fun i h=>by cases h;simp))
              | (refine step_append_C rfl (.tmp 65) (.tmp 68) rfl wi.heap.size i0 hi hz0 hz1 hz2 (.slice (some ⟨wi.drew.heap.size,0,none⟩) 0 0) 0 [] rfl (World.ownsRow.alloc (empty_row wi.drew wi.heap.size (Nat.le_refl _)) (.cells #[.int .u32 (c.1.val:Int),.int .u32 (c.2.val:Int)] 38)) ⟨go,0,none⟩ s _ (flat (out.take s)) rfl (flat_take_len out Hq.out hs) (news_cells ((hcoi.below ((Bd.alloc (Nat.le_refl _) (.cells #[] 38)).alloc (by simp) (.cells #[.int .u32 (c.1.val:Int),.int .u32 (c.2.val:Int)] 38)) hgoi).take s)) (flat_oneCell _) (by unfold maxLen;omega) (by omega) (((Bd.alloc (Nat.le_refl _) (.cells #[] 38)).alloc (by simp) (.cells #[.int .u32 (c.1.val:Int),.int .u32 (c.2.val:Int)] 38))).size ?_;intro v69 w69 hown69 hgrow69;have hBk:Below wi.heap.size wi w69:=(((Bd.alloc (Nat.le_refl _) (.cells #[] 38)).alloc (by simp) (.cells #[.int .u32 (c.1.val:Int),.int .u32 (c.2.val:Int)] 38))).grown hgrow69 (((Bd.alloc (Nat.le_refl _) (.cells #[] 38)).alloc (by simp) (.cells #[.int .u32 (c.1.val:Int),.int .u32 (c.2.val:Int)] 38))).size (fun i h=>by cases h;simp);have h74:∀ t u,(encC c)[t]? = some u->w69.cell? ((⟨wi.heap.size+1,0,none⟩:Addr).add t)=some u:=far_two hgrow69 (by simp) (by simp [Value.ownBlock]) (new_at2 wi _ _ _))
              | (refine step_append_C rfl (.tmp 65) (.tmp 68) rfl wi.heap.size i0 hi hz0 hz1 hz2 (.slice (some ⟨wi.heap.size+1,0,none⟩) 0 0) 0 [] rfl (empty_row2 wi (.cells #[.int .u32 (c.1.val:Int),.int .u32 (c.2.val:Int)] 38)) ⟨go,0,none⟩ s _ (flat (out.take s)) rfl (flat_take_len out Hq.out hs) (news_cells ((hcoi.below ((Bd.alloc (Nat.le_refl _) (.cells #[.int .u32 (c.1.val:Int),.int .u32 (c.2.val:Int)] 38)).alloc (by simp) (.cells #[] 38)) hgoi).take s)) (flat_oneCell _) (by unfold maxLen;omega) (by omega) (((Bd.alloc (Nat.le_refl _) (.cells #[.int .u32 (c.1.val:Int),.int .u32 (c.2.val:Int)] 38)).alloc (by simp) (.cells #[] 38))).size ?_;intro v69 w69 hown69 hgrow69;have hBk:Below wi.heap.size wi w69:=(((Bd.alloc (Nat.le_refl _) (.cells #[.int .u32 (c.1.val:Int),.int .u32 (c.2.val:Int)] 38)).alloc (by simp) (.cells #[] 38))).grown hgrow69 (((Bd.alloc (Nat.le_refl _) (.cells #[.int .u32 (c.1.val:Int),.int .u32 (c.2.val:Int)] 38)).alloc (by simp) (.cells #[] 38))).size (fun i h=>by cases h;simp);have h74:∀ t u,(encC c)[t]? = some u->w69.cell? ((⟨wi.heap.size,0,none⟩:Addr).add t)=some u:=far_two hgrow69 (by simp;omega) (by simp [Value.ownBlock]) (new_at1 wi _ _ _))
              | (refine step_append_C rfl (.tmp 69) (.tmp 74) rfl wi.heap.size i0 hi hz0 hz1 hz2 v69 (0+s) ([] ++ flat (out.take s)) rfl (World.ownsRow.alloc hown69 (.cells #[.int .u32 (c.1.val:Int),.int .u32 (c.2.val:Int)] 38)) ⟨w69.heap.size,0,none⟩ 1 1 (encC c) rfl rfl (new_two _ _ _ _) (flat_one c ▸ flat_oneCell [c]) (by unfold maxLen;omega) (by omega) (Nat.le_trans hBk.size (by simp)) ?_;intro v75 w75 hown75 hgrow75;replace hBk:=(hBk.alloc hBk.size (.cells #[.int .u32 (c.1.val:Int),.int .u32 (c.2.val:Int)] 38)).grown hgrow75 (by have:=hBk.size;simp;omega) (fun i h=>(World.ownsRow.lt hown69 i h).1))
              | (refine step_append_C rfl (.tmp 69) (.tmp 74) rfl wi.heap.size i0 hi hz0 hz1 hz2 v69 (0+s) ([] ++ flat (out.take s)) rfl hown69 ⟨_,0,none⟩ 1 1 (encC c) rfl rfl h74 (flat_one c ▸ flat_oneCell [c]) (by unfold maxLen;omega) (by omega) hBk.size ?_;intro v75 w75 hown75 hgrow75;replace hBk:=hBk.grown hgrow75 hBk.size (fun i h=>(World.ownsRow.lt hown69 i h).1))
              | (refine step_append_C rfl (.tmp 75) (.tmp 78) rfl wi.heap.size i0 hi hz0 hz1 hz2 v75 (0+s+1) ([] ++ flat (out.take s) ++ encC c) rfl hown75 ⟨go,s*2,none⟩ (q - s) _ (flat (out.drop s)) rfl (flat_drop_len out Hq.out hs) (news_cells ((hcoi.below hBk hgoi).drop s)) (flat_oneCell _) (by unfold maxLen;omega) (by omega) hBk.size ?_;intro v79 w79 hown79 hgrow79;replace hBk:=hBk.grown hgrow79 hBk.size (fun i h=>(World.ownsRow.lt hown75 i h).1)))
            all_goals
             have HS:Hid (OutIs l (j+1) (out.take s ++ [c] ++ out.drop s)):=HO.out.put HC.out HND.out HL.out HG.out
             have hfin:=own_put hown79 Hq.out hs hnyi.size
             go_wp2
             go_roundw
             case rel=>exact⟨j+1,_,by omega,by go_num,hfin,HS.out,chain hnyi hBk⟩
             case measure=>simp [intOf];omega
           ·clear e
            go_wp2
            refine wp_region_quiet_below (by kernel_rfl) (by kernel_rfl) ?_
            repeat (first | go_big_quiet_step (fail) | quiet_step (fail))
            refine wpQuiet_nil ?_
            intro _ hw'
            obtain⟨⟨dq2,osq2⟩,hw''⟩:=hw'
            subst hw''
            go_wp2
            clear D0 D1 E0 E1
            have hcs:¬ capo=s:=by have h:=row_cap hrow;rw [<- Hq.out] at h;omega
            have hzz:Below w2.heap.size w2 (grow (redrawn wy dq2) osq2):=chain hzy (below_regrown wy dq2 osq2)
            generalize grow (redrawn wy dq2) osq2=wi at hzz ⊢
            have hnyi:=chain hny2 hzz
            have hrowi:=OwnsC.below hrow' hzz
            have hcoi:=hco.below hzz hgo2
            have hgoi:go<wi.heap.size:=Nat.lt_of_lt_of_le hgo2 hzz.size
            have hgi:g<wi.heap.size:=Nat.lt_of_lt_of_le hg2 hzz.size
            have hqc:q<=capo:=by have h:=row_cap hrow;rw [<- Hq.out] at h;exact h
            have hsc:(s:Int)<=(capo:Int):=by omega
            have hs0:(0:Int)<=(s:Int):=by omega
            have x0i:=(hzz.cell (p:=⟨g,off+j*2,none⟩) hg2).trans x0
            have x1i:=(hzz.cell (p:=⟨g,off+j*2+1,none⟩) hg2).trans x1
            have Bd:Below wi.heap.size wi wi.drew:=below_drewN (Below.refl _ wi) 1
            go_region_held3 (fun w'=>w'.cell? ⟨g,off+j*2,none⟩=some (.int .u32 (c.1.val:Int))/\w'.cell? ⟨g,off+j*2+1,none⟩=some (.int .u32 (c.2.val:Int))) (first | (exact two_next hBk hgi x0i x1i) | go_keep)
             (first
              | (refine step_append_C rfl (.tmp 65) (.tmp 68) rfl wi.heap.size i0 hi hz0 hz1 hz2 (.slice (some ⟨wi.drew.heap.size,0,none⟩) 0 0) 0 [] rfl (empty_row wi.drew wi.heap.size (Nat.le_refl _)) ⟨go,0,none⟩ s _ (flat (out.take s)) rfl (flat_take_len out Hq.out hs) (news_cells ((hcoi.below (Bd.alloc (Nat.le_refl _) (.cells #[] 38)) hgoi).take s)) (flat_oneCell _) (by unfold maxLen;omega) (by omega) ((Bd.alloc (Nat.le_refl _) (.cells #[] 38))).size ?_;intro v69 w69 hown69 hgrow69;have hBk:Below wi.heap.size wi w69:=((Bd.alloc (Nat.le_refl _) (.cells #[] 38))).grown hgrow69 ((Bd.alloc (Nat.le_refl _) (.cells #[] 38))).size (fun i h=>by cases h;simp))
              | (refine step_append_C rfl (.tmp 65) (.tmp 68) rfl wi.heap.size i0 hi hz0 hz1 hz2 (.slice (some ⟨wi.drew.heap.size,0,none⟩) 0 0) 0 [] rfl (World.ownsRow.alloc (empty_row wi.drew wi.heap.size (Nat.le_refl _)) (.cells #[.int .u32 (c.1.val:Int),.int .u32 (c.2.val:Int)] 38)) ⟨go,0,none⟩ s _ (flat (out.take s)) rfl (flat_take_len out Hq.out hs) (news_cells ((hcoi.below ((Bd.alloc (Nat.le_refl _) (.cells #[] 38)).alloc (by simp) (.cells #[.int .u32 (c.1.val:Int),.int .u32 (c.2.val:Int)] 38)) hgoi).take s)) (flat_oneCell _) (by unfold maxLen;omega) (by omega) (((Bd.alloc (Nat.le_refl _) (.cells #[] 38)).alloc (by simp) (.cells #[.int .u32 (c.1.val:Int),.int .u32 (c.2.val:Int)] 38))).size ?_;intro v69 w69 hown69 hgrow69;have hBk:Below wi.heap.size wi w69:=(((Bd.alloc (Nat.le_refl _) (.cells #[] 38)).alloc (by simp) (.cells #[.int .u32 (c.1.val:Int),.int .u32 (c.2.val:Int)] 38))).grown hgrow69 (((Bd.alloc (Nat.le_refl _) (.cells #[] 38)).alloc (by simp) (.cells #[.int .u32 (c.1.val:Int),.int .u32 (c.2.val:Int)] 38))).size (fun i h=>by cases h;simp);have h74:∀ t u,(encC c)[t]? = some u->w69.cell? ((⟨wi.heap.size+1,0,none⟩:Addr).add t)=some u:=far_two hgrow69 (by simp) (by simp [Value.ownBlock]) (new_at2 wi _ _ _))
              | (refine step_append_C rfl (.tmp 65) (.tmp 68) rfl wi.heap.size i0 hi hz0 hz1 hz2 (.slice (some ⟨wi.heap.size+1,0,none⟩) 0 0) 0 [] rfl (empty_row2 wi (.cells #[.int .u32 (c.1.val:Int),.int .u32 (c.2.val:Int)] 38)) ⟨go,0,none⟩ s _ (flat (out.take s)) rfl (flat_take_len out Hq.out hs) (news_cells ((hcoi.below ((Bd.alloc (Nat.le_refl _) (.cells #[.int .u32 (c.1.val:Int),.int .u32 (c.2.val:Int)] 38)).alloc (by simp) (.cells #[] 38)) hgoi).take s)) (flat_oneCell _) (by unfold maxLen;omega) (by omega) (((Bd.alloc (Nat.le_refl _) (.cells #[.int .u32 (c.1.val:Int),.int .u32 (c.2.val:Int)] 38)).alloc (by simp) (.cells #[] 38))).size ?_;intro v69 w69 hown69 hgrow69;have hBk:Below wi.heap.size wi w69:=(((Bd.alloc (Nat.le_refl _) (.cells #[.int .u32 (c.1.val:Int),.int .u32 (c.2.val:Int)] 38)).alloc (by simp) (.cells #[] 38))).grown hgrow69 (((Bd.alloc (Nat.le_refl _) (.cells #[.int .u32 (c.1.val:Int),.int .u32 (c.2.val:Int)] 38)).alloc (by simp) (.cells #[] 38))).size (fun i h=>by cases h;simp);have h74:∀ t u,(encC c)[t]? = some u->w69.cell? ((⟨wi.heap.size,0,none⟩:Addr).add t)=some u:=far_two hgrow69 (by simp;omega) (by simp [Value.ownBlock]) (new_at1 wi _ _ _))
              | (refine step_append_C rfl (.tmp 69) (.tmp 74) rfl wi.heap.size i0 hi hz0 hz1 hz2 v69 (0+s) ([] ++ flat (out.take s)) rfl (World.ownsRow.alloc hown69 (.cells #[.int .u32 (c.1.val:Int),.int .u32 (c.2.val:Int)] 38)) ⟨w69.heap.size,0,none⟩ 1 1 (encC c) rfl rfl (new_two _ _ _ _) (flat_one c ▸ flat_oneCell [c]) (by unfold maxLen;omega) (by omega) (Nat.le_trans hBk.size (by simp)) ?_;intro v75 w75 hown75 hgrow75;replace hBk:=(hBk.alloc hBk.size (.cells #[.int .u32 (c.1.val:Int),.int .u32 (c.2.val:Int)] 38)).grown hgrow75 (by have:=hBk.size;simp;omega) (fun i h=>(World.ownsRow.lt hown69 i h).1))
              | (refine step_append_C rfl (.tmp 69) (.tmp 74) rfl wi.heap.size i0 hi hz0 hz1 hz2 v69 (0+s) ([] ++ flat (out.take s)) rfl hown69 ⟨_,0,none⟩ 1 1 (encC c) rfl rfl h74 (flat_one c ▸ flat_oneCell [c]) (by unfold maxLen;omega) (by omega) hBk.size ?_;intro v75 w75 hown75 hgrow75;replace hBk:=hBk.grown hgrow75 hBk.size (fun i h=>(World.ownsRow.lt hown69 i h).1))
              | (refine step_append_C rfl (.tmp 75) (.tmp 78) rfl wi.heap.size i0 hi hz0 hz1 hz2 v75 (0+s+1) ([] ++ flat (out.take s) ++ encC c) rfl hown75 ⟨go,s*2,none⟩ (q - s) _ (flat (out.drop s)) rfl (flat_drop_len out Hq.out hs) (news_cells ((hcoi.below hBk hgoi).drop s)) (flat_oneCell _) (by unfold maxLen;omega) (by omega) hBk.size ?_;intro v79 w79 hown79 hgrow79;replace hBk:=hBk.grown hgrow79 hBk.size (fun i h=>(World.ownsRow.lt hown75 i h).1)))
            all_goals
             have HS:Hid (OutIs l (j+1) (out.take s ++ [c] ++ out.drop s)):=HO.out.put HC.out HND.out HL.out HG.out
             have hfin:=own_put hown79 Hq.out hs hnyi.size
             go_wp2
             go_roundw
             case rel=>exact⟨j+1,_,by omega,by go_num,hfin,HS.out,chain hnyi hBk⟩
             case measure=>simp [intOf];omega
         ·have HT:Hid (∀ y∈out.take (s+1),ltC y c=true):=take_lt_step HL.out HD.out hb
          go_wp2
          refine wp_region_quiet_below (by kernel_rfl) (by kernel_rfl) ?_
          repeat (first | go_big_quiet_step ((refine less_qt _ _ _ _ _ ?_;with_reducible assumption)) | quiet_step ((refine less_qt _ _ _ _ _ ?_;with_reducible assumption)))
          refine wpQuiet_nil ?_
          intro _ hw'
          obtain⟨⟨dq,osq⟩,hw''⟩:=hw'
          subst hw''
          go_wp2
          go_roundw
          case rel=>exact⟨s+1,by omega,by go_num,HT.out,hnz.trans ((below_regrown _ dq osq).mono hnz.size)⟩
          case measure=>simp [intOf];omega
        ·have hsq:s=q:=by omega
         have hss:((s:Int) == (q:Int))=true:=by simp;omega
         have HG:Hid (∀ y∈out.drop s,ltC c y=true):=fun y hy=>by
          rw [List.drop_of_length_le (by rw [<- Hq.out];omega)] at hy
          cases hy
         clear hsq
         go_wp2
         refine wp_region_quiet_below (by kernel_rfl) (by kernel_rfl) ?_
         repeat (first | go_big_quiet_step (fail) | quiet_step (fail))
         refine wpQuiet_nil ?_
         intro _ hw'
         obtain⟨⟨dq,osq⟩,hw''⟩:=hw'
         subst hw''
         go_wp2
         have hzy:Below w2.heap.size w2 (grow (redrawn wr dq) osq):=hnz.trans ((below_regrown wr dq osq).mono hnz.size)
         generalize grow (redrawn wr dq) osq=wy at hzy ⊢
         refine wp_region_quiet_below (by kernel_rfl) (by kernel_rfl) ?_
         repeat (first | go_big_quiet_step (fail) | quiet_step (fail))
         refine wpQuiet_nil ?_
         intro _ hw'
         obtain⟨⟨dq2,osq2⟩,hw''⟩:=hw'
         subst hw''
         go_wp2
         have hzz:Below w2.heap.size w2 (grow (redrawn wy dq2) osq2):=chain hzy (below_regrown wy dq2 osq2)
         generalize grow (redrawn wy dq2) osq2=wi at hzz ⊢
         have hnyi:=chain hny2 hzz
         have hrowi:=OwnsC.below hrow' hzz
         have hcoi:=hco.below hzz hgo2
         have hgoi:go<wi.heap.size:=Nat.lt_of_lt_of_le hgo2 hzz.size
         have hgi:g<wi.heap.size:=Nat.lt_of_lt_of_le hg2 hzz.size
         have hqc:q<=capo:=by have h:=row_cap hrow;rw [<- Hq.out] at h;exact h
         have hsc:(s:Int)<=(capo:Int):=by omega
         have hs0:(0:Int)<=(s:Int):=by omega
         have x0i:=(hzz.cell (p:=⟨g,off+j*2,none⟩) hg2).trans x0
         have x1i:=(hzz.cell (p:=⟨g,off+j*2+1,none⟩) hg2).trans x1
         by_cases hcs:capo=s
         ·have hcs2:s=capo:=hcs.symm
          have HDR:Hid (out.drop s=[]):=List.drop_of_length_le (by rw [<- Hq.out];omega)
          subst hcs2
          clear hcs
          have Bd:Below wi.heap.size wi wi.drew:=below_drewN (Below.refl _ wi) 1
          go_region_held3 (fun w'=>w'.cell? ⟨g,off+j*2,none⟩=some (.int .u32 (c.1.val:Int))/\w'.cell? ⟨g,off+j*2+1,none⟩=some (.int .u32 (c.2.val:Int))) (first | (exact two_next hBk hgi x0i x1i) | go_keep)
           (first
            | (refine step_append_C rfl (.tmp 65) (.tmp 68) rfl wi.heap.size i0 hi hz0 hz1 hz2 (.slice (some ⟨wi.drew.heap.size,0,none⟩) 0 0) 0 [] rfl (empty_row wi.drew wi.heap.size (Nat.le_refl _)) ⟨go,0,none⟩ s _ (flat (out.take s)) rfl (flat_take_len out Hq.out hs) (news_cells ((hcoi.below (Bd.alloc (Nat.le_refl _) (.cells #[] 38)) hgoi).take s)) (flat_oneCell _) (by unfold maxLen;omega) (by omega) ((Bd.alloc (Nat.le_refl _) (.cells #[] 38))).size ?_;intro v69 w69 hown69 hgrow69;have hBk:Below wi.heap.size wi w69:=((Bd.alloc (Nat.le_refl _) (.cells #[] 38))).grown hgrow69 ((Bd.alloc (Nat.le_refl _) (.cells #[] 38))).size (fun i h=>by cases h;simp))
            | (refine step_append_C rfl (.tmp 65) (.tmp 68) rfl wi.heap.size i0 hi hz0 hz1 hz2 (.slice (some ⟨wi.drew.heap.size,0,none⟩) 0 0) 0 [] rfl (World.ownsRow.alloc (empty_row wi.drew wi.heap.size (Nat.le_refl _)) (.cells #[.int .u32 (c.1.val:Int),.int .u32 (c.2.val:Int)] 38)) ⟨go,0,none⟩ s _ (flat (out.take s)) rfl (flat_take_len out Hq.out hs) (news_cells ((hcoi.below ((Bd.alloc (Nat.le_refl _) (.cells #[] 38)).alloc (by simp) (.cells #[.int .u32 (c.1.val:Int),.int .u32 (c.2.val:Int)] 38)) hgoi).take s)) (flat_oneCell _) (by unfold maxLen;omega) (by omega) (((Bd.alloc (Nat.le_refl _) (.cells #[] 38)).alloc (by simp) (.cells #[.int .u32 (c.1.val:Int),.int .u32 (c.2.val:Int)] 38))).size ?_;intro v69 w69 hown69 hgrow69;have hBk:Below wi.heap.size wi w69:=(((Bd.alloc (Nat.le_refl _) (.cells #[] 38)).alloc (by simp) (.cells #[.int .u32 (c.1.val:Int),.int .u32 (c.2.val:Int)] 38))).grown hgrow69 (((Bd.alloc (Nat.le_refl _) (.cells #[] 38)).alloc (by simp) (.cells #[.int .u32 (c.1.val:Int),.int .u32 (c.2.val:Int)] 38))).size (fun i h=>by cases h;simp);have h74:∀ t u,(encC c)[t]? = some u->w69.cell? ((⟨wi.heap.size+1,0,none⟩:Addr).add t)=some u:=far_two hgrow69 (by simp) (by simp [Value.ownBlock]) (new_at2 wi _ _ _))
            | (refine step_append_C rfl (.tmp 65) (.tmp 68) rfl wi.heap.size i0 hi hz0 hz1 hz2 (.slice (some ⟨wi.heap.size+1,0,none⟩) 0 0) 0 [] rfl (empty_row2 wi (.cells #[.int .u32 (c.1.val:Int),.int .u32 (c.2.val:Int)] 38)) ⟨go,0,none⟩ s _ (flat (out.take s)) rfl (flat_take_len out Hq.out hs) (news_cells ((hcoi.below ((Bd.alloc (Nat.le_refl _) (.cells #[.int .u32 (c.1.val:Int),.int .u32 (c.2.val:Int)] 38)).alloc (by simp) (.cells #[] 38)) hgoi).take s)) (flat_oneCell _) (by unfold maxLen;omega) (by omega) (((Bd.alloc (Nat.le_refl _) (.cells #[.int .u32 (c.1.val:Int),.int .u32 (c.2.val:Int)] 38)).alloc (by simp) (.cells #[] 38))).size ?_;intro v69 w69 hown69 hgrow69;have hBk:Below wi.heap.size wi w69:=(((Bd.alloc (Nat.le_refl _) (.cells #[.int .u32 (c.1.val:Int),.int .u32 (c.2.val:Int)] 38)).alloc (by simp) (.cells #[] 38))).grown hgrow69 (((Bd.alloc (Nat.le_refl _) (.cells #[.int .u32 (c.1.val:Int),.int .u32 (c.2.val:Int)] 38)).alloc (by simp) (.cells #[] 38))).size (fun i h=>by cases h;simp);have h74:∀ t u,(encC c)[t]? = some u->w69.cell? ((⟨wi.heap.size,0,none⟩:Addr).add t)=some u:=far_two hgrow69 (by simp;omega) (by simp [Value.ownBlock]) (new_at1 wi _ _ _))
            | (refine step_append_C rfl (.tmp 69) (.tmp 74) rfl wi.heap.size i0 hi hz0 hz1 hz2 v69 (0+s) ([] ++ flat (out.take s)) rfl (World.ownsRow.alloc hown69 (.cells #[.int .u32 (c.1.val:Int),.int .u32 (c.2.val:Int)] 38)) ⟨w69.heap.size,0,none⟩ 1 1 (encC c) rfl rfl (new_two _ _ _ _) (flat_one c ▸ flat_oneCell [c]) (by unfold maxLen;omega) (by omega) (Nat.le_trans hBk.size (by simp)) ?_;intro v75 w75 hown75 hgrow75;replace hBk:=(hBk.alloc hBk.size (.cells #[.int .u32 (c.1.val:Int),.int .u32 (c.2.val:Int)] 38)).grown hgrow75 (by have:=hBk.size;simp;omega) (fun i h=>(World.ownsRow.lt hown69 i h).1))
            | (refine step_append_C rfl (.tmp 69) (.tmp 74) rfl wi.heap.size i0 hi hz0 hz1 hz2 v69 (0+s) ([] ++ flat (out.take s)) rfl hown69 ⟨_,0,none⟩ 1 1 (encC c) rfl rfl h74 (flat_one c ▸ flat_oneCell [c]) (by unfold maxLen;omega) (by omega) hBk.size ?_;intro v75 w75 hown75 hgrow75;replace hBk:=hBk.grown hgrow75 hBk.size (fun i h=>(World.ownsRow.lt hown69 i h).1))
            | (refine step_append_C rfl (.tmp 75) (.tmp 78) rfl wi.heap.size i0 hi hz0 hz1 hz2 v75 (0+s+1) ([] ++ flat (out.take s) ++ encC c) rfl hown75 ⟨go,0,none⟩ 0 _ [] rfl rfl (fun t u hu=>by simp at hu) (fun u hu=>by simp at hu) (by unfold maxLen;omega) (by omega) hBk.size ?_;intro v79 w79 hown79 hgrow79;replace hBk:=hBk.grown hgrow79 hBk.size (fun i h=>(World.ownsRow.lt hown75 i h).1)))
          all_goals
           have HS:Hid (OutIs l (j+1) (out.take s ++ [c] ++ out.drop s)):=HO.out.put HC.out HND.out HL.out HG.out
           have hfin:=own_put0 hown79 Hq.out hs HDR.out hnyi.size
           go_wp2
           go_roundw
           case rel=>exact⟨j+1,_,by omega,by go_num,hfin,HS.out,chain hnyi hBk⟩
           case measure=>simp [intOf];omega
         ·have Bd:Below wi.heap.size wi wi.drew:=below_drewN (Below.refl _ wi) 1
          go_region_held3 (fun w'=>w'.cell? ⟨g,off+j*2,none⟩=some (.int .u32 (c.1.val:Int))/\w'.cell? ⟨g,off+j*2+1,none⟩=some (.int .u32 (c.2.val:Int))) (first | (exact two_next hBk hgi x0i x1i) | go_keep)
           (first
            | (refine step_append_C rfl (.tmp 65) (.tmp 68) rfl wi.heap.size i0 hi hz0 hz1 hz2 (.slice (some ⟨wi.drew.heap.size,0,none⟩) 0 0) 0 [] rfl (empty_row wi.drew wi.heap.size (Nat.le_refl _)) ⟨go,0,none⟩ s _ (flat (out.take s)) rfl (flat_take_len out Hq.out hs) (news_cells ((hcoi.below (Bd.alloc (Nat.le_refl _) (.cells #[] 38)) hgoi).take s)) (flat_oneCell _) (by unfold maxLen;omega) (by omega) ((Bd.alloc (Nat.le_refl _) (.cells #[] 38))).size ?_;intro v69 w69 hown69 hgrow69;have hBk:Below wi.heap.size wi w69:=((Bd.alloc (Nat.le_refl _) (.cells #[] 38))).grown hgrow69 ((Bd.alloc (Nat.le_refl _) (.cells #[] 38))).size (fun i h=>by cases h;simp))
            | (refine step_append_C rfl (.tmp 65) (.tmp 68) rfl wi.heap.size i0 hi hz0 hz1 hz2 (.slice (some ⟨wi.drew.heap.size,0,none⟩) 0 0) 0 [] rfl (World.ownsRow.alloc (empty_row wi.drew wi.heap.size (Nat.le_refl _)) (.cells #[.int .u32 (c.1.val:Int),.int .u32 (c.2.val:Int)] 38)) ⟨go,0,none⟩ s _ (flat (out.take s)) rfl (flat_take_len out Hq.out hs) (news_cells ((hcoi.below ((Bd.alloc (Nat.le_refl _) (.cells #[] 38)).alloc (by simp) (.cells #[.int .u32 (c.1.val:Int),.int .u32 (c.2.val:Int)] 38)) hgoi).take s)) (flat_oneCell _) (by unfold maxLen;omega) (by omega) (((Bd.alloc (Nat.le_refl _) (.cells #[] 38)).alloc (by simp) (.cells #[.int .u32 (c.1.val:Int),.int .u32 (c.2.val:Int)] 38))).size ?_;intro v69 w69 hown69 hgrow69;have hBk:Below wi.heap.size wi w69:=(((Bd.alloc (Nat.le_refl _) (.cells #[] 38)).alloc (by simp) (.cells #[.int .u32 (c.1.val:Int),.int .u32 (c.2.val:Int)] 38))).grown hgrow69 (((Bd.alloc (Nat.le_refl _) (.cells #[] 38)).alloc (by simp) (.cells #[.int .u32 (c.1.val:Int),.int .u32 (c.2.val:Int)] 38))).size (fun i h=>by cases h;simp);have h74:∀ t u,(encC c)[t]? = some u->w69.cell? ((⟨wi.heap.size+1,0,none⟩:Addr).add t)=some u:=far_two hgrow69 (by simp) (by simp [Value.ownBlock]) (new_at2 wi _ _ _))
            | (refine step_append_C rfl (.tmp 65) (.tmp 68) rfl wi.heap.size i0 hi hz0 hz1 hz2 (.slice (some ⟨wi.heap.size+1,0,none⟩) 0 0) 0 [] rfl (empty_row2 wi (.cells #[.int .u32 (c.1.val:Int),.int .u32 (c.2.val:Int)] 38)) ⟨go,0,none⟩ s _ (flat (out.take s)) rfl (flat_take_len out Hq.out hs) (news_cells ((hcoi.below ((Bd.alloc (Nat.le_refl _) (.cells #[.int .u32 (c.1.val:Int),.int .u32 (c.2.val:Int)] 38)).alloc (by simp) (.cells #[] 38)) hgoi).take s)) (flat_oneCell _) (by unfold maxLen;omega) (by omega) (((Bd.alloc (Nat.le_refl _) (.cells #[.int .u32 (c.1.val:Int),.int .u32 (c.2.val:Int)] 38)).alloc (by simp) (.cells #[] 38))).size ?_;intro v69 w69 hown69 hgrow69;have hBk:Below wi.heap.size wi w69:=(((Bd.alloc (Nat.le_refl _) (.cells #[.int .u32 (c.1.val:Int),.int .u32 (c.2.val:Int)] 38)).alloc (by simp) (.cells #[] 38))).grown hgrow69 (((Bd.alloc (Nat.le_refl _) (.cells #[.int .u32 (c.1.val:Int),.int .u32 (c.2.val:Int)] 38)).alloc (by simp) (.cells #[] 38))).size (fun i h=>by cases h;simp);have h74:∀ t u,(encC c)[t]? = some u->w69.cell? ((⟨wi.heap.size,0,none⟩:Addr).add t)=some u:=far_two hgrow69 (by simp;omega) (by simp [Value.ownBlock]) (new_at1 wi _ _ _))
            | (refine step_append_C rfl (.tmp 69) (.tmp 74) rfl wi.heap.size i0 hi hz0 hz1 hz2 v69 (0+s) ([] ++ flat (out.take s)) rfl (World.ownsRow.alloc hown69 (.cells #[.int .u32 (c.1.val:Int),.int .u32 (c.2.val:Int)] 38)) ⟨w69.heap.size,0,none⟩ 1 1 (encC c) rfl rfl (new_two _ _ _ _) (flat_one c ▸ flat_oneCell [c]) (by unfold maxLen;omega) (by omega) (Nat.le_trans hBk.size (by simp)) ?_;intro v75 w75 hown75 hgrow75;replace hBk:=(hBk.alloc hBk.size (.cells #[.int .u32 (c.1.val:Int),.int .u32 (c.2.val:Int)] 38)).grown hgrow75 (by have:=hBk.size;simp;omega) (fun i h=>(World.ownsRow.lt hown69 i h).1))
            | (refine step_append_C rfl (.tmp 69) (.tmp 74) rfl wi.heap.size i0 hi hz0 hz1 hz2 v69 (0+s) ([] ++ flat (out.take s)) rfl hown69 ⟨_,0,none⟩ 1 1 (encC c) rfl rfl h74 (flat_one c ▸ flat_oneCell [c]) (by unfold maxLen;omega) (by omega) hBk.size ?_;intro v75 w75 hown75 hgrow75;replace hBk:=hBk.grown hgrow75 hBk.size (fun i h=>(World.ownsRow.lt hown69 i h).1))
            | (refine step_append_C rfl (.tmp 75) (.tmp 78) rfl wi.heap.size i0 hi hz0 hz1 hz2 v75 (0+s+1) ([] ++ flat (out.take s) ++ encC c) rfl hown75 ⟨go,s*2,none⟩ (q - s) _ (flat (out.drop s)) rfl (flat_drop_len out Hq.out hs) (news_cells ((hcoi.below hBk hgoi).drop s)) (flat_oneCell _) (by unfold maxLen;omega) (by omega) hBk.size ?_;intro v79 w79 hown79 hgrow79;replace hBk:=hBk.grown hgrow79 hBk.size (fun i h=>(World.ownsRow.lt hown75 i h).1)))
          all_goals
           have HS:Hid (OutIs l (j+1) (out.take s ++ [c] ++ out.drop s)):=HO.out.put HC.out HND.out HL.out HG.out
           have hfin:=own_put hown79 Hq.out hs hnyi.size
           go_wp2
           go_roundw
           case rel=>exact⟨j+1,_,by omega,by go_num,hfin,HS.out,chain hnyi hBk⟩
           case measure=>simp [intOf];omega
    ·obtain rfl:j=k:=by omega
     have HL:Hid (IsLeast l out):=by
      have h:=HO.out
      rw [Hn.out] at h
      exact h.least
     obtain⟨a9,cap9,rfl⟩:=(OwnsC.row hrow).len
     have hrow':=hrow
     by_cases h64:out.length<=64
     ·go_wp2
      go_ret2
      exact⟨_,out,0,rfl,.inr ⟨HR.out,_,HL.out,.inl ⟨h64,rfl,rfl⟩⟩,hrow',hny⟩
     ·go_wp2
      go_ret2
      exact⟨_,[],3,rfl,.inr ⟨HR.out,_,HL.out,.inr ⟨by omega,rfl,rfl⟩⟩,World.ownsRow_nil _ _ _ _,hny⟩
end Go.Proofs.YtblbhmnahoiecaaGreat
