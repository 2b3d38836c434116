/- What Kids, Binds, Parts and More hand back; they leave the world as it is, but for new blocks. -/
import Derived.Test.YtpmmbfngogpinaaGreatQY1
import Derived.Great.Walk
import Derived.Deep.WholeRow
import Derived.Deep.Cut
set_option linter.unusedVariables false
set_option linter.unusedSimpArgs false
namespace Go.Proofs.YtpmmbfngogpinaaGreat
open Go.RowKit
theorem retI {k:IntKind} {a b:Int} (h:a=b):Ending.returned (.int k a)=.returned (.int k b):=by rw [h]
theorem retII {k:IntKind} {a b c d:Int} (h:a=b) (h2:c=d):Ending.returned (.tuple #[.int k a,.int k c])=.returned (.tuple #[.int k b,.int k d]):=by rw [h,h2]
set_option maxRecDepth 100000 in
set_option maxHeartbeats 1000000 in
theorem kids_any (k:Int) (w:World):Calls Tryz.prog 110 #[.int .i64 k] w fun e w'=>e=.returned (.int .i64 (kidsK k))∧w'=w:=by
 have h:k=1∨k=2∨k=3∨k=19∨k=20∨k=21∨k=24∨k=25∨k=5∨k=9∨k=10∨k=12∨k=16∨k=17∨k=18∨k=23∨k=26∨k=4∨k=6∨k=7∨k=8∨k=14∨k=15∨k=28∨k=11∨k=13∨k=22∨k=27∨(k<1∨28<k):=by omega
 rcases h with rfl|rfl|rfl|rfl|rfl|rfl|rfl|rfl|rfl|rfl|rfl|rfl|rfl|rfl|rfl|rfl|rfl|rfl|rfl|rfl|rfl|rfl|rfl|rfl|rfl|rfl|rfl|rfl|h
 case inr.inr.inr.inr.inr.inr.inr.inr.inr.inr.inr.inr.inr.inr.inr.inr.inr.inr.inr.inr.inr.inr.inr.inr.inr.inr.inr.inr =>
  have e:Hid (kidsK k = -1):=by show _=_;unfold kidsK;rw [if_neg (by omega),if_neg (by omega),if_neg (by omega),if_neg (by omega),if_neg (by omega),if_neg (by omega)]
  have n1:¬ k=1:=by omega
  have n2:¬ k=2:=by omega
  have n3:¬ k=3:=by omega
  have n4:¬ k=4:=by omega
  have n5:¬ k=5:=by omega
  have n6:¬ k=6:=by omega
  have n7:¬ k=7:=by omega
  have n8:¬ k=8:=by omega
  have n9:¬ k=9:=by omega
  have n10:¬ k=10:=by omega
  have n11:¬ k=11:=by omega
  have n12:¬ k=12:=by omega
  have n13:¬ k=13:=by omega
  have n14:¬ k=14:=by omega
  have n15:¬ k=15:=by omega
  have n16:¬ k=16:=by omega
  have n17:¬ k=17:=by omega
  have n18:¬ k=18:=by omega
  have n19:¬ k=19:=by omega
  have n20:¬ k=20:=by omega
  have n21:¬ k=21:=by omega
  have n22:¬ k=22:=by omega
  have n23:¬ k=23:=by omega
  have n24:¬ k=24:=by omega
  have n25:¬ k=25:=by omega
  have n26:¬ k=26:=by omega
  have n27:¬ k=27:=by omega
  have n28:¬ k=28:=by omega
  clear h
  go_enter Tryz.func110,Tryz.ntmps110
  go_wp2
  go_ret
  exact⟨retI e.out.symm,rfl⟩
 all_goals
  go_enter Tryz.func110,Tryz.ntmps110
  go_wp2
  go_ret
  exact⟨rfl,rfl⟩
set_option maxRecDepth 100000 in
set_option maxHeartbeats 1000000 in
theorem partsC_any (k:Int) (w:World):Calls Tryz.prog 109 #[.int .i64 k] w fun e w'=>e=.returned (.int .i64 (partsK k))∧w'=w:=by
 go_enter Tryz.func109,Tryz.ntmps109
 go_wp2
 all_goals
  go_ret
  exact⟨retI (by unfold partsK;simp_all),rfl⟩
set_option maxRecDepth 100000 in
set_option maxHeartbeats 1000000 in
theorem rParts_any (k:Int) (w:World):Calls Tryz.prog 147 #[.int .i64 k] w fun e w'=>e=.returned (.int .i64 (partsK k))∧w'=w:=by
 go_enter Tryz.func147,Tryz.ntmps147
 go_wp2
 all_goals
  go_ret
  exact⟨retI (by unfold partsK;simp_all),rfl⟩
set_option maxRecDepth 100000 in
set_option maxHeartbeats 1000000 in
theorem rMore_any (k:Int) (w:World):Calls Tryz.prog 137 #[.int .i64 k] w fun e w'=>e=.returned (.int .i64 ((moreK k:Nat):Int))∧w'=w:=by
 go_enter Tryz.func137,Tryz.ntmps137
 go_wp2
 all_goals
  go_ret
  exact⟨retI (by unfold moreK;simp_all),rfl⟩
set_option maxRecDepth 100000 in
set_option maxHeartbeats 1000000 in
theorem bindsC_any (k i:Int) (w:World):Calls Tryz.prog 85 #[.int .i64 k,.int .i64 i] w fun e w'=>e=.returned (.tuple #[.int .i64 (bvI k i),.int .i64 (bdI k i)])∧w'=w:=by
 go_enter Tryz.func85,Tryz.ntmps85
 go_wp2
 all_goals
  go_ret2
  exact⟨retII (by unfold bvI;simp_all) (by unfold bdI;simp_all),rfl⟩
set_option maxRecDepth 100000 in
set_option maxHeartbeats 1000000 in
theorem rBinds_any (k i:Int) (w:World):Calls Tryz.prog 136 #[.int .i64 k,.int .i64 i] w fun e w'=>e=.returned (.tuple #[.int .i64 (bvI k i),.int .i64 (bdI k i)])∧w'=w:=by
 by_cases h1:i=1
 ·subst h1
  go_enter Tryz.func136,Tryz.ntmps136
  go_wp2
  all_goals
   go_ret2
   exact⟨retII (by unfold bvI;simp_all) (by unfold bdI;simp_all),rfl⟩
 ·by_cases h0:i=0
  ·subst h0
   go_enter Tryz.func136,Tryz.ntmps136
   go_wp2
   all_goals
    go_ret2
    exact⟨retII (by unfold bvI;simp_all) (by unfold bdI;simp_all),rfl⟩
  ·go_enter Tryz.func136,Tryz.ntmps136
   go_wp2
   go_ret2
   exact⟨retII (by unfold bvI;simp_all) (by unfold bdI;simp_all),rfl⟩
def arrK:Array Value:=#[.int .i64 (-1),.int .i64 0,.int .i64 0,.int .i64 0,.int .i64 2,.int .i64 1,.int .i64 2,.int .i64 2,.int .i64 2,.int .i64 1,.int .i64 1,.int .i64 3,.int .i64 1,.int .i64 3,.int .i64 2,.int .i64 2,.int .i64 1,.int .i64 1,.int .i64 1,.int .i64 0,.int .i64 0,.int .i64 0,.int .i64 4,.int .i64 1,.int .i64 0,.int .i64 0,.int .i64 1,.int .i64 5,.int .i64 2]
def arrZK:Array Value:=#[.int .i64 0,.int .i64 0,.int .i64 0,.int .i64 0,.int .i64 0,.int .i64 0,.int .i64 0,.int .i64 0,.int .i64 0,.int .i64 0,.int .i64 0,.int .i64 0,.int .i64 0,.int .i64 0,.int .i64 0,.int .i64 0,.int .i64 0,.int .i64 0,.int .i64 0,.int .i64 0,.int .i64 0,.int .i64 0,.int .i64 0,.int .i64 0,.int .i64 0,.int .i64 0,.int .i64 0,.int .i64 0,.int .i64 0]
def lK:List Int:=[-1,0,0,0,2,1,2,2,2,1,1,3,1,3,2,2,1,1,1,0,0,0,4,1,0,0,1,5,2]
theorem arrK_eq:arrK.toList=lK.map fun z=>Value.int .i64 z:=by kernel_rfl
theorem lK_get (j:Nat) (h:j<29):lK[j]? = some (kidsK (j:Int)):=by
 match j,h with
 | 0,_=>rfl
 | 1,_=>rfl
 | 2,_=>rfl
 | 3,_=>rfl
 | 4,_=>rfl
 | 5,_=>rfl
 | 6,_=>rfl
 | 7,_=>rfl
 | 8,_=>rfl
 | 9,_=>rfl
 | 10,_=>rfl
 | 11,_=>rfl
 | 12,_=>rfl
 | 13,_=>rfl
 | 14,_=>rfl
 | 15,_=>rfl
 | 16,_=>rfl
 | 17,_=>rfl
 | 18,_=>rfl
 | 19,_=>rfl
 | 20,_=>rfl
 | 21,_=>rfl
 | 22,_=>rfl
 | 23,_=>rfl
 | 24,_=>rfl
 | 25,_=>rfl
 | 26,_=>rfl
 | 27,_=>rfl
 | 28,_=>rfl
 | j+29,h=>omega
theorem heap_last (w:World) (o:Obj):(w.alloc o).heap[w.heap.size]? = some o:=heapNew w o
theorem cellNew {W:World} {x:Nat} {A:Array Value} {ty:TypeId} (h:W.heap[x]? = some (.cells A ty (0,0))) (k:Nat) (v:Value) (hv:A.toList[k]? = some v):W.cell? ⟨x,k,none⟩=some v:=by
 unfold World.cell?
 simp only [h]
 rw [← Array.getElem?_toList]
 simpa using hv
set_option maxRecDepth 100000 in
set_option maxHeartbeats 2000000 in
theorem rKids_any (k:Int) (w:World):Calls Tryz.prog 146 #[.int .i64 k] w fun e w'=>e=.returned (.int .i64 (kidsK k))∧Below w.heap.size w w':=by
 go_enter Tryz.func146,Tryz.ntmps146
 go_upto_region 1 with fail
 refine wp_region_list ?_
 refine wpList_buildTo rfl 174 _ rfl (some 4) rfl arrK (by kernel_rfl) ?_
 refine Great.wpList_runTo rfl (some 3) rfl (.pointer (some ⟨w.heap.size,0,none⟩)) (w.alloc (.cells arrZK 174)) (by rfl) ?_
 refine wpList_store_rowTo rfl 174 (.tmp 3) (.tmp 4) rfl rfl w.heap.size arrK rfl rfl 174 arrZK (heap_last w _) (by kernel_rfl) rfl (by kernel_rfl) ?_
 rw [World.setRow_alloc_new]
 refine wpList_nil ?_
 obtain⟨W,hW⟩:∃ W,W=w.alloc (.cells arrK 174):=⟨_,rfl⟩
 have hb:Below w.heap.size w W:=by rw [hW];exact belowA _ _
 have hc:∀ j:Nat,j<29→W.cell? ⟨w.heap.size,j,none⟩=some (.int .i64 (kidsK (j:Int))):=fun j hj=>by
  refine cellNew (A:=arrK) (ty:=174) (by rw [hW];exact heapNew w _) j _ ?_
  rw [arrK_eq,List.getElem?_map,lK_get j hj];rfl
 rw [← hW]
 clear hW
 obtain⟨V,hV⟩:∃ V,V=Value.agg arrK:=⟨_,rfl⟩
 rw [← hV]
 clear hV
 rcases (show k<0∨28<k∨(0≤k∧k≤28) by omega) with h|h|h
 ·have e:Hid (kidsK k = -1):=by show _=_;unfold kidsK;rw [if_neg (by omega),if_neg (by omega),if_neg (by omega),if_neg (by omega),if_neg (by omega),if_neg (by omega)]
  go_wp2
  go_ret
  exact⟨retI e.out.symm,hb⟩
 ·have e:Hid (kidsK k = -1):=by show _=_;unfold kidsK;rw [if_neg (by omega),if_neg (by omega),if_neg (by omega),if_neg (by omega),if_neg (by omega),if_neg (by omega)]
  have h0:¬ k<0:=by omega
  go_wp2
  go_ret
  exact⟨retI e.out.symm,hb⟩
 ·obtain⟨j,rfl⟩:=Int.eq_ofNat_of_zero_le h.1
  have hj:j<29:=by omega
  have h0:¬ (j:Int) < 0:=by omega
  have h1:¬ (28:Int) < (j:Int):=by omega
  have hcj:=hc j hj
  clear hc h
  obtain⟨z,hz⟩:∃ z,z=kidsK (j:Int):=⟨_,rfl⟩
  rw [← hz] at hcj
  have Hz:Hid (z=kidsK (j:Int)):=hz
  clear hz
  go_wp2
  go_ret
  exact⟨retI Hz.out,hb⟩
end Go.Proofs.YtpmmbfngogpinaaGreat
