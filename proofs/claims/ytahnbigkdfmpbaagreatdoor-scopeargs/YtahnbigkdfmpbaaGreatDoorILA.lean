/- What the small functions of the layer lex, and of the document's answer, hand back. What is let by, and how long a name is: pass, nameLength of the layer lex. The longest token with which a text begins; up to where a text is whole: first, whole of the layer lex. Rows of tokens in memory: owned, read, and appended to. The tokens of a text: Scan of the layer lex. -/
import Derived.WalkKit
import Derived.Lib.Strings
import Derived.Laws.Strings3
import Derived.Test.YtahnbigkdfmpbaaGreatDoorProg
import Derived.Test.YtahnbigkdfmpbaaGreatDoorLay
import Derived.Test.YtahnbigkdfmpbaaGreatDoorIMMath
import Derived.WalkMore
import Derived.Deep.MidRow
import Derived.Lib.AppendZeros
import Derived.Maps.AppendAt
import Derived.Laws.OwnMore
import Derived.OwnWalk
import Derived.Deep.Onto
set_option linter.unusedVariables false
set_option linter.unusedSimpArgs false
namespace Go.Proofs.YtahnbigkdfmpbaaGreatDoor
open Go.RowKit
theorem ret_bool {a b:Bool} (h:a=b):Ending.returned (.bool a)=.returned (.bool b):=by rw [h]
theorem ret_int {k:IntKind} {a b:Int} (h:a=b):Ending.returned (.int k a)=.returned (.int k b):=by rw [h]
theorem chain {a b c:World} (h1:Below a.heap.size a b) (h2:Below b.heap.size b c):Below a.heap.size a c:=h1.trans (h2.mono h1.size)
theorem below_alloc (w:World) (o:Obj):Below w.heap.size w (w.alloc o):=(Below.refl _ _).alloc (Nat.le_refl _) _
def tl (s:ByteArray):Bs:=s.data.toList
def bs (l:Bs):ByteArray:=⟨l.toArray⟩
theorem tl_bs (l:Bs):tl (bs l)=l:=by simp [tl,bs]
theorem bs_tl (s:ByteArray):bs (tl s)=s:=by simp [tl,bs]
theorem tl_inj {a b:ByteArray} (h:tl a=tl b):a=b:=by rw [← bs_tl a,h,bs_tl]
theorem tl_len (s:ByteArray):(tl s).length=s.size:=(Lib.size_eq s).symm
theorem bs_size (l:Bs):(bs l).size=l.length:=by rw [← tl_len,tl_bs]
theorem tl_def (s:ByteArray):s.data.toList=tl s:=rfl
theorem tl_get (s:ByteArray) (k:Nat) (h:k<s.size):(tl s)[k]? = some s[k]:=by
 rw [List.getElem?_eq_getElem (by rw [tl_len];exact h)]
 rfl
theorem tl_drop (s:ByteArray) (k:Nat) (h:k<s.size):(tl s).drop k=s[k] :: (tl s).drop (k+1):=by
 rw [List.drop_eq_getElem_cons (by rw [tl_len];exact h)]
 rfl
theorem tl_extract (s:ByteArray) (a b:Nat):tl (s.extract a b)=((tl s).take b).drop a:=by
 simp only [tl,ByteArray.data_extract,Array.toList_extract,List.extract]
 rw [List.take_drop]
 by_cases h:a≤b
 ·rw [Nat.add_sub_cancel' h]
 ·rw [List.drop_of_length_le,List.drop_of_length_le]
  ·simp;omega
  ·simp;omega
theorem tl_from (s:ByteArray) (a:Nat):tl (s.extract a s.size)=(tl s).drop a:=by
 rw [tl_extract,List.take_of_length_le (by rw [tl_len];exact Nat.le_refl _)]
set_option maxHeartbeats 400000 in
theorem isLetter_any (c:UInt8) (w:World):Calls Tryz.prog 82 #[.int .u8 (c.toNat:Int)] w fun e w'=>e=.returned (.bool (letterB c))∧w'=w:=by
 have hb:letterB c=decide ((97≤c.toNat∧c.toNat≤122)∨(65≤c.toNat∧c.toNat≤90)∨c.toNat=95):=rfl
 have H:Hid (_=_):=hb
 clear hb
 generalize letterB c=r at *
 generalize c.toNat=x at *
 go_enter Tryz.func82,Tryz.ntmps82
 go_wp2
 all_goals
  go_ret
  exact⟨ret_bool (by rw [H.out,Bool.eq_iff_iff];simp;omega),rfl⟩
set_option maxHeartbeats 400000 in
theorem isDigit_any (c:UInt8) (w:World):Calls Tryz.prog 83 #[.int .u8 (c.toNat:Int)] w fun e w'=>e=.returned (.bool (digitB c))∧w'=w:=by
 have hb:digitB c=decide (48≤c.toNat∧c.toNat≤57):=rfl
 have H:Hid (_=_):=hb
 clear hb
 generalize digitB c=r at *
 generalize c.toNat=x at *
 go_enter Tryz.func83,Tryz.ntmps83
 go_wp2
 all_goals
  go_ret
  exact⟨ret_bool (by rw [H.out,Bool.eq_iff_iff];simp;omega),rfl⟩
theorem clone_any (s:ByteArray) (w:World) (hs:s.size≤65536):Calls Tryz.prog 55 #[.string s] w fun e w'=>e=.returned (.string s)∧Below w.heap.size w w':=by
 have hC:=stringslite_Clone s w (by omega)
 go_enter Tryz.func55,Tryz.ntmps55
 go_wp2_with (go_at_call 84;refine hC.mono ?_;rintro e w' ⟨rfl,hb⟩)
 go_ret
 exact⟨rfl,hb⟩
set_option maxHeartbeats 400000 in
theorem comment_any (s:ByteArray) (w:World) (hs:s.size≤65536):Calls Tryz.prog 53 #[.string s] w fun e w'=>e=.returned (.int .i64 (cmtN (tl s):Nat))∧w'=w:=by
 have hI:=strings_IndexByte s 10 w
 have e10:(10:Int).toNat.toUInt8=10:=rfl
 rw [e10,tl_def] at hI
 have h1:=Lib.indexByte_ge (tl s) 10
 have H:Hid (_∧_):=cmtN_index (tl s)
 have HL:Hid (_=_):=tl_len s
 generalize Lib.indexByte (tl s) 10=r at *
 by_cases h:0≤r
 ·go_enter Tryz.func53,Tryz.ntmps53
  go_wp2_with (go_at_call 81;refine hI.mono ?_;rintro e w' ⟨rfl,hw⟩;rw [hw])
  go_ret
  exact⟨ret_int (H.out.2 (by omega)).symm,rfl⟩
 ·have h2:r = -1:=by omega
  go_enter Tryz.func53,Tryz.ntmps53
  go_wp2_with (go_at_call 81;refine hI.mono ?_;rintro e w' ⟨rfl,hw⟩;rw [hw])
  go_ret
  exact⟨ret_int (by rw [H.out.1 h2,HL.out]),rfl⟩
end Go.Proofs.YtahnbigkdfmpbaaGreatDoor
namespace Go.Proofs.YtahnbigkdfmpbaaGreatDoor
open Go.RowKit
theorem pre_dash (t:Bs) (c:UInt8) (h:c.toNat=45):Lib.hasPrefix (c :: t) [45,45]=dash t:=by
 have hc:((45:UInt8) == c)=true:=by rw [beqc];simp [h]
 cases t with
 | nil=>simp [Lib.hasPrefix,dash,List.isPrefixOf]
 | cons d t =>
  simp only [Lib.hasPrefix,List.isPrefixOf,hc,Bool.true_and,Bool.and_true,beqc,dash]
  rfl
theorem bl_yes {c:UInt8} (h:((c.toNat:Int) == 32)=true∨((c.toNat:Int) == 9)=true∨((c.toNat:Int) == 10)=true∨((c.toNat:Int) == 13)=true):blankB c=true:=by
 simp only [beq_iff_eq] at h
 simp only [blankB,decide_eq_true_eq];omega
theorem bl_no {c:UInt8} (h1:((c.toNat:Int) == 32)=false) (h2:((c.toNat:Int) == 9)=false) (h3:((c.toNat:Int) == 10)=false) (h4:((c.toNat:Int) == 13)=false):blankB c=false:=by
 simp only [beq_eq_false_iff_ne] at h1 h2 h3 h4
 simp only [blankB,decide_eq_false_iff_not];omega
theorem d_yes {c:UInt8} (h:((c.toNat:Int) == 45)=true):c.toNat=45:=by simp only [beq_iff_eq] at h;omega
theorem d_no {c:UInt8} (h:((c.toNat:Int) == 45)=false):c.toNat≠45:=by simp only [beq_eq_false_iff_ne] at h;omega
theorem dash_of {s:ByteArray} {k:Nat} {r:Bool} (hlt:k<s.size) (h:s[k].toNat=45) (hr:Lib.hasPrefix ((tl s).drop k) [45,45]=r):dash ((tl s).drop (k+1))=r:=by
 rw [tl_drop s k hlt,pre_dash _ _ h] at hr;exact hr
theorem ps_blank {s:ByteArray} {k q:Nat} (hlt:k<s.size) (hb:blankB s[k]=true) (h:k+passN false ((tl s).drop k)=q):(k+1) + passN false ((tl s).drop (k+1))=q:=by
 rw [tl_drop s k hlt,passN_blank hb] at h;omega
theorem ps_dash {s:ByteArray} {k q:Nat} (hlt:k<s.size) (hb:s[k].toNat=45) (hd:dash ((tl s).drop (k+1))=true) (h:k+passN false ((tl s).drop k)=q) :
  (k+cmtN ((tl s).drop k)) + passN false ((tl s).drop (k+cmtN ((tl s).drop k)))=q:=by
 rw [tl_drop s k hlt,passN_dash hb hd,← tl_drop s k hlt,List.drop_drop] at h;omega
theorem ps_stop {s:ByteArray} {k q:Nat} (hlt:k<s.size) (hb:blankB s[k]=false) (hd:¬ (s[k].toNat=45∧dash ((tl s).drop (k+1))=true)) (h:k+passN false ((tl s).drop k)=q):k=q:=by
 rw [tl_drop s k hlt,passN_stop hb hd] at h;omega
theorem ps_end {s:ByteArray} {k q:Nat} (hlt:¬ k<s.size) (h:k+passN false ((tl s).drop k)=q):k=q:=by
 rw [List.drop_of_length_le (by rw [tl_len];omega)] at h
 simpa [passN] using h
theorem cmt_bd {s:ByteArray} {k:Nat} (hk:k≤s.size):k+cmtN ((tl s).drop k)≤s.size:=by
 have:=cmtN_le ((tl s).drop k)
 rw [List.length_drop,tl_len] at this
 omega
theorem cmt_pos {s:ByteArray} {k:Nat} (hlt:k<s.size) (hb:s[k].toNat=45):0<cmtN ((tl s).drop k):=by
 rw [tl_drop s k hlt,cmtN,if_neg (by omega)];omega
set_option maxHeartbeats 1000000 in
theorem pass_any (s:ByteArray) (p:Nat) (w:World) (hp:p≤s.size) (hs:s.size≤65536) :
  Calls Tryz.prog 28 #[.string s,.int .i64 p] w fun e w'=>e=.returned (.int .i64 ((p+passN false ((tl s).drop p):Nat):Int))∧w'=w:=by
 obtain⟨q,hq⟩:∃ q,p+passN false ((tl s).drop p)=q:=⟨_,rfl⟩
 have HQ:Hid (_=_):=hq
 rw [hq]
 clear hq
 go_enter Tryz.func28,Tryz.ntmps28
 go_wp2
 go_step3
 go_wp2
 go_step3
 go_wp2
 go_loop [1] (fun i=>∃ k:Nat,k≤s.size∧i=.int .i64 k∧Hid (k+passN false ((tl s).drop k)=q)) (fun i=>s.size - (intOf i).toNat)
 case atStart=>exact⟨p,hp,rfl,HQ⟩
 case round =>
  obtain⟨k,hk,rfl,HK⟩:=hrel
  by_cases hlt:k<s.size
  ·have hcm:=fun w=>comment_any (s.extract k s.size) w (by simp;omega)
   have hpr:=fun w=>strings_HasPrefix (s.extract k s.size) ⟨#[45,45]⟩ w
   obtain⟨n,hn⟩:∃ n,cmtN ((tl s).drop k)=n:=⟨_,rfl⟩
   obtain⟨r,hr⟩:∃ r,Lib.hasPrefix ((tl s).drop k) [45,45]=r:=⟨_,rfl⟩
   simp only [tl_def,tl_from] at hcm hpr
   simp only [hn] at hcm
   simp only [hr] at hpr
   have HN:Hid (_=_):=hn
   have HR:Hid (_=_):=hr
   have hb:=cmt_bd (s:=s) hk
   rw [hn] at hb
   clear hn hr
   go_wp2_with (first
    | (go_at_call 52;refine (hpr _).mono ?_;rintro e w' ⟨rfl,hw⟩;rw [hw])
    | (go_at_call 53;refine (hcm _).mono ?_;rintro e w' ⟨rfl,hw⟩;rw [hw]))
   ·go_round
    case rel=>exact⟨k+1,by omega,by go_num,ps_blank hlt (bl_yes (.inl ‹_›)) HK⟩
    case measure=>simp [intOf];omega
   ·go_round
    case rel=>exact⟨k+1,by omega,by go_num,ps_blank hlt (bl_yes (.inr (.inl ‹_›))) HK⟩
    case measure=>simp [intOf];omega
   ·go_round
    case rel=>exact⟨k+1,by omega,by go_num,ps_blank hlt (bl_yes (.inr (.inr (.inl ‹_›)))) HK⟩
    case measure=>simp [intOf];omega
   ·go_round
    case rel=>exact⟨k+1,by omega,by go_num,ps_blank hlt (bl_yes (.inr (.inr (.inr ‹_›)))) HK⟩
    case measure=>simp [intOf];omega
   ·have h45:=d_yes ‹((s[k].toNat:Int) == 45)=true›
    have hbl:=bl_no (c:=s[k]) ‹_› ‹_› ‹_› ‹_›
    have hr:r=false:=by cases r <;> simp_all
    have:Hid (k=q):=ps_stop hlt hbl (fun h=>by rw [dash_of hlt h45 HR,hr] at h;simp at h) HK
    try rw [Exit.noGoto_ret]
    go_ret
    exact⟨ret_int (by rw [this.out]),rfl⟩
   ·have h45:=d_yes ‹((s[k].toNat:Int) == 45)=true›
    have hr:r=true:=by cases r <;> simp_all
    have hp:=cmt_pos hlt h45
    have HN':cmtN ((tl s).drop k)=n:=HN
    rw [HN'] at hp
    go_round
    case rel=>exact⟨k+n,by omega,by go_num,by
     have:=ps_dash hlt h45 (by rw [dash_of hlt h45 HR,hr]) HK
     rw [HN'] at this
     exact this⟩
    case measure=>simp [intOf];omega
   ·have h45:=d_no ‹((s[k].toNat:Int) == 45)=false›
    have hbl:=bl_no (c:=s[k]) ‹_› ‹_› ‹_› ‹_›
    have:Hid (k=q):=ps_stop hlt hbl (fun h=>h45 h.1) HK
    try rw [Exit.noGoto_ret]
    go_ret
    exact⟨ret_int (by rw [this.out]),rfl⟩
  ·have:Hid (k=q):=ps_end hlt HK
   go_wp2
   try rw [Exit.noGoto_ret]
   go_ret
   exact⟨ret_int (by rw [this.out]),rfl⟩
theorem wordN_at {s:ByteArray} {k:Nat} (hlt:k<s.size):wordN ((tl s).drop k)=if letterB s[k] || digitB s[k] then 1+wordN ((tl s).drop (k+1)) else 0:=by rw [tl_drop s k hlt];rfl
theorem nameN_at {s:ByteArray} (hlt:0<s.size):nameN (tl s)=if letterB s[0] then 1+wordN ((tl s).drop 1) else 0:=by
 have:=tl_drop s 0 hlt
 rw [List.drop_zero] at this
 rw [this];rfl
set_option maxHeartbeats 1000000 in
theorem nameLength_any (s : ByteArray) (w : World) (hs : s.size ≤ 65536) :
    Calls Tryz.prog 54 #[.string s] w fun e w'=>e=.returned (.int .i64 (nameN (tl s):Nat))∧w'=w:=by
  obtain⟨q,hq⟩:∃ q,nameN (tl s)=q:=⟨_,rfl⟩
  have HQ:Hid (_=_):=hq
  rw [hq]
  clear hq
  go_enter Tryz.func54,Tryz.ntmps54
  go_wp2
  go_loop [3] (fun i=>∃ k:Nat,k≤s.size∧i=.int .i64 k∧Hid ((k=0∧nameN (tl s)=q)∨(0<k∧k+wordN ((tl s).drop k)=q))) (fun i=>s.size - (intOf i).toNat)
  case atStart=>exact⟨0,Nat.zero_le _,rfl,.inl ⟨rfl,HQ⟩⟩
  case round =>
    obtain⟨k,hk,rfl,HK⟩:=hrel
    by_cases hlt:k<s.size
    · obtain⟨lb,hlb⟩:∃ r,letterB s[k]=r:=⟨_,rfl⟩
      obtain⟨db,hdb⟩:∃ r,digitB s[k]=r:=⟨_,rfl⟩
      have c1:=fun w=>isLetter_any s[k] w
      have c2:=fun w=>isDigit_any s[k] w
      simp only [hlb] at c1
      simp only [hdb] at c2
      have HL:Hid (_=_):=hlb
      have HD:Hid (_=_):=hdb
      clear hlb hdb
      have HS:Hid ((lb=true∨(0<k∧db=true))→0<k+1∧(k+1) + wordN ((tl s).drop (k+1))=q):=fun h=>by
        refine⟨by omega,?_⟩
        rcases HK with ⟨rfl,h1⟩|⟨h0,h1⟩
        · rw [nameN_at hlt] at h1
          have HL':letterB s[0]=lb:=HL
          rw [HL',if_pos (by rcases h with h | h <;> simp_all)] at h1
          simp at h1 ⊢; omega
        · have HL':letterB s[k]=lb:=HL
          have HD':digitB s[k]=db:=HD
          rw [wordN_at hlt,HL',HD',if_pos (by rcases h with h | h <;> simp_all)] at h1
          omega
      have HE:Hid ((lb=false∧(k=0∨db=false))→k=q):=fun h=>by
        rcases HK with ⟨rfl,h1⟩|⟨h0,h1⟩
        · rw [nameN_at hlt] at h1
          have HL':letterB s[0]=lb:=HL
          rw [HL',if_neg (by simp [h.1])] at h1
          omega
        · have HL':letterB s[k]=lb:=HL
          have HD':digitB s[k]=db:=HD
          rw [wordN_at hlt, HL', HD', if_neg (by rcases h.2 with h2 | h2; · omega
                                                 · simp [h.1,h2])] at h1
          omega
      by_cases hk0:k=0
      · subst hk0
        cases lb
        all_goals
          go_wp2_with (first
            | (go_at_call 82;refine (c1 _).mono ?_;rintro e w' ⟨rfl,hw⟩;rw [hw])
            | (go_at_call 83;refine (c2 _).mono ?_;rintro e w' ⟨rfl,hw⟩;rw [hw]))
        · go_ret
          exact⟨ret_int (by rw [← HE.out (by simp)];rfl),rfl⟩
        · go_round
          case rel=>exact⟨0+1,by omega,by go_num,.inr (HS.out (by simp))⟩
          case measure=>simp [intOf];omega
      · have hkp:0<k:=by omega
        cases lb
        · cases db
          · go_wp2_with (first
              | (go_at_call 82;refine (c1 _).mono ?_;rintro e w' ⟨rfl,hw⟩;rw [hw])
              | (go_at_call 83;refine (c2 _).mono ?_;rintro e w' ⟨rfl,hw⟩;rw [hw]))
            go_ret
            exact⟨ret_int (by rw [HE.out (by simp)]),rfl⟩
          · go_wp2_with (first
              | (go_at_call 82;refine (c1 _).mono ?_;rintro e w' ⟨rfl,hw⟩;rw [hw])
              | (go_at_call 83;refine (c2 _).mono ?_;rintro e w' ⟨rfl,hw⟩;rw [hw]))
            go_round
            case rel=>exact⟨k+1,by omega,by go_num,.inr (HS.out (by simp [hkp]))⟩
            case measure=>simp [intOf];omega
        · go_wp2_with (first
            | (go_at_call 82;refine (c1 _).mono ?_;rintro e w' ⟨rfl,hw⟩;rw [hw])
            | (go_at_call 83;refine (c2 _).mono ?_;rintro e w' ⟨rfl,hw⟩;rw [hw]))
          go_round
          case rel=>exact⟨k+1,by omega,by go_num,.inr (HS.out (by simp))⟩
          case measure=>simp [intOf];omega
    · have:Hid (k=q):=by
        rcases HK with ⟨rfl,h1⟩|⟨h0,h1⟩
        · have:tl s=[]:=List.length_eq_zero_iff.1 (by rw [tl_len];omega)
          rw [this] at h1
          exact h1
        · rw [List.drop_of_length_le (by rw [tl_len];omega)] at h1
          exact h1
      go_wp2
      go_ret
      exact⟨ret_int (by rw [this.out]),rfl⟩
end Go.Proofs.YtahnbigkdfmpbaaGreatDoor
namespace Go.Proofs.YtahnbigkdfmpbaaGreatDoor
open Go.RowKit
def signL:List Value:=signTab.map fun p=>Value.string (bs p)
structure Tabs (w:World):Prop where
 sg:w.rangeAt 0 0 signL
 u8:Lib.Utf8Tabs 1 2 w
theorem lt_of_cell {W:World} {g i:Nat} {v:Value} (h:W.cell? ⟨g,i,none⟩=some v):g<W.heap.size:=by
 apply Nat.lt_of_not_le
 intro hle
 have e:W.heap[g]? = none:=Array.getElem?_eq_none hle
 simp [World.cell?,e] at h
theorem Tabs.below {w w':World} (h:Tabs w) (hb:Below w.heap.size w w'):Tabs w':=by
 refine⟨fun j v hj=>?_,fun c hc=>?_,fun i hi=>⟨?_,?_⟩⟩
 ·exact (hb.cell (p:=⟨0,0+j,none⟩) (lt_of_cell (h.sg j v hj))).trans (h.sg j v hj)
 ·exact (hb.cell (p:=⟨1,c,none⟩) (lt_of_cell (h.u8.1 c hc))).trans (h.u8.1 c hc)
 ·exact (hb.cell (p:=⟨2,2*i,none⟩) (lt_of_cell (h.u8.2 i hi).1)).trans (h.u8.2 i hi).1
 ·exact (hb.cell (p:=⟨2,2*i+1,none⟩) (lt_of_cell (h.u8.2 i hi).2)).trans (h.u8.2 i hi).2
set_option maxRecDepth 100000 in
theorem idx_sign (k:Nat) (p:Bs) (h:signTab[k]? = some p):∀ w:World,(Instr.index 114 (.agg signL.toArray) (.int .i64 (k:Int))).run Tryz.prog w=.ok (.string (bs p)) w:=by
 have hk:k<20:=by
  rcases Nat.lt_or_ge k 20 with h1|h1
  ·exact h1
  ·rw [List.getElem?_eq_none (by simpa [signTab] using h1)] at h;cases h
 rcases (show k=0∨k=1∨k=2∨k=3∨k=4∨k=5∨k=6∨k=7∨k=8∨k=9∨k=10∨k=11∨k=12∨k=13∨k=14∨k=15∨k=16∨k=17∨k=18∨k=19 by omega) with rfl|rfl|rfl|rfl|rfl|rfl|rfl|rfl|rfl|rfl|rfl|rfl|rfl|rfl|rfl|rfl|rfl|rfl|rfl|rfl
 all_goals
  simp only [signTab,List.getElem?_cons_zero,List.getElem?_cons_succ,Option.some.injEq] at h
  subst h
  intro w
  kernel_rfl
theorem extract_take (s:ByteArray) (n:Nat):s.extract 0 n=bs ((tl s).take n):=by
 apply tl_inj
 rw [tl_extract,tl_bs,List.drop_zero]
set_option maxHeartbeats 1000000 in
theorem first_any (s:ByteArray) (w:World) (hs:s.size≤65536) (hT:Tabs w) :
  Calls Tryz.prog 29 #[.string s] w fun e w'=>e=.returned (.tuple #[.int .i64 ((firstF (tl s)).1:Nat),.string (bs (firstF (tl s)).2)])∧Below w.heap.size w w':=by
 have hn:=nameLength_any s w hs
 have hle:=nameN_le (tl s)
 rw [tl_len] at hle
 by_cases h0:0<nameN (tl s)
 ·rw [firstF_name h0]
  have hC:=fun w=>clone_any (s.extract 0 (nameN (tl s))) w (by simp;omega)
  have HE:Hid (_=_):=extract_take s (nameN (tl s))
  generalize nameN (tl s)=n at *
  have e1:(n:Int)≤(s.size:Int):=by omega
  have e2:(0:Int) < (n:Int):=by omega
  go_enter Tryz.func29,Tryz.ntmps29
  go_wp2_with (first
   | (go_at_call 54;refine hn.mono ?_;rintro e w' ⟨rfl,hw⟩;rw [hw])
   | (go_at_call 55;refine (hC _).mono ?_;rintro e w' ⟨rfl,hb⟩))
  go_ret2
  exact⟨by rw [HE.out];rfl,hb⟩
 ·obtain⟨R,hR⟩:∃ R,signTab.find? (fun p=>p.isPrefixOf (tl s))=R:=⟨_,rfl⟩
  rw [firstF_sign h0,hR]
  have HR:Hid (_=_):=hR
  have hz:nameN (tl s)=0:=by omega
  rw [hz] at hn
  clear hR hz h0 hle
  go_enter Tryz.func29,Tryz.ntmps29
  go_wp2_with (first
   | (go_at_call 54;refine hn.mono ?_;rintro e w' ⟨rfl,hw⟩;rw [hw])
   | (refine wpList_load_mid rfl 114 _ rfl 0 0 rfl signL _ hT.sg Tryz.underlying114 rfl (by kernel_rfl) ?_))
  go_loop [16] (fun i=>∃ k:Nat,k≤20∧i=.int .i64 k∧Hid ((signTab.drop k).find? (fun p=>p.isPrefixOf (tl s))=R)) (fun i=>20 - (intOf i).toNat)
  case atStart=>exact⟨0,by omega,rfl,HR⟩
  case round =>
   obtain⟨k,hk,rfl,HK⟩:=hrel
   by_cases hlt:k<20
   ·obtain⟨p,hp⟩:∃ p,signTab[k]? = some p:=⟨signTab[k]'hlt,List.getElem?_eq_getElem hlt⟩
    have hix:=idx_sign k p hp
    have HD:Hid (signTab.drop k=p :: signTab.drop (k+1)):=by
     have h1:signTab[k]'hlt=p:=by rw [List.getElem?_eq_getElem hlt] at hp;exact Option.some.inj hp
     show _=_
     rw [List.drop_eq_getElem_cons hlt,h1]
    have hpr:=fun w=>strings_HasPrefix s (bs p) w
    obtain⟨r,hr⟩:∃ r,p.isPrefixOf (tl s)=r:=⟨_,rfl⟩
    simp only [tl_def,tl_bs,Lib.hasPrefix,hr] at hpr
    have Hr:Hid (_=_):=hr
    clear hr hp
    cases r
    ·go_wp2_with (go_at_call 52;refine (hpr _).mono ?_;rintro e w' ⟨rfl,hw⟩;rw [hw])
     go_round
     case rel=>exact⟨k+1,by omega,by go_num,by
      have h1:(signTab.drop k).find? (fun p=>p.isPrefixOf (tl s))=R:=HK
      rw [HD.out,List.find?_cons,Hr.out] at h1
      exact h1⟩
     case measure=>simp [intOf];omega
    ·have HF:Hid (R=some p):=by
      have h1:(signTab.drop k).find? (fun p=>p.isPrefixOf (tl s))=R:=HK
      rw [HD.out,List.find?_cons,Hr.out] at h1
      exact h1.symm
     go_wp2_with (go_at_call 52;refine (hpr _).mono ?_;rintro e w' ⟨rfl,hw⟩;rw [hw])
     go_ret2
     exact⟨by rw [HF.out];rfl,Below.refl _ _⟩
   ·have HF:Hid (R=none):=by
     have h1:(signTab.drop k).find? (fun p=>p.isPrefixOf (tl s))=R:=HK
     rw [List.drop_of_length_le (by simp [signTab];omega)] at h1
     exact h1.symm
    go_wp2
    go_ret2
    exact⟨by rw [HF.out];rfl,Below.refl _ _⟩
theorem get_tl (s:ByteArray) (i:Nat):s.get! i=(tl s).getD i 0:=by
 by_cases h:i<s.size
 ·rw [Utf8W.get!_of_lt s i h,List.getD_eq_getElem?_getD,tl_get s i h];rfl
 ·have h1:s.get! i=default:=by
   show s.data[i]! = default
   exact getElem!_neg s.data i h
  rw [h1,List.getD_eq_getElem?_getD,List.getElem?_eq_none (by rw [tl_len];omega)]
  rfl
theorem dec_eq (s:ByteArray) (h:0<s.size):Lib.decodeGo s=Lib.decodeN s.size ((tl s).getD 0 0).toNat ((tl s).getD 1 0).toNat ((tl s).getD 2 0).toNat ((tl s).getD 3 0).toNat:=by
 rw [Lib.decodeGo,if_neg (by omega),Lib.decode_at,Nat.sub_zero,get_tl,get_tl,get_tl,get_tl]
theorem dec_pos (s:ByteArray) (h:0<s.size):1≤(Lib.decodeGo s).2:=by rw [dec_eq s h];exact decodeN_pos _ _ _ _ _
theorem dec_step (s:ByteArray) (h:0<s.size):stepN (tl s)=if (Lib.decodeGo s).1=65533∧(Lib.decodeGo s).2=1 then 0 else (Lib.decodeGo s).2:=by
 rw [stepN,stepM,tl_len,dec_eq s h]
set_option maxHeartbeats 1000000 in
theorem whole_any (s:ByteArray) (w:World) (hs:s.size≤65536) (hT:Tabs w) :
  Calls Tryz.prog 27 #[.string s] w fun e w'=>e=.returned (.int .i64 (utfP (s.size+1) (tl s):Nat))∧Below w.heap.size w w':=by
 obtain⟨q,hq⟩:∃ q,utfP (s.size+1) (tl s)=q:=⟨_,rfl⟩
 have HQ:Hid (_=_):=hq
 rw [hq]
 clear hq
 go_enter Tryz.func27,Tryz.ntmps27
 go_wp2
 go_loopw [3] (fun i wr=>∃ k f:Nat,k≤s.size∧i=.int .i64 k∧Hid (s.size<k+f∧k+utfP f ((tl s).drop k)=q)∧Below w.heap.size w wr) (fun i _=>s.size - (intOf i).toNat)
 case atStart=>exact⟨0,s.size+1,Nat.zero_le _,rfl,⟨by omega,by rw [Nat.zero_add];exact HQ⟩,Below.refl _ _⟩
 case round =>
  obtain⟨k,f,hk,rfl,HK,hB⟩:=hrel
  by_cases hlt:k<s.size
  ·have hD:=utf8_DecodeRuneInString (s.extract k s.size) wr (hT.below hB).u8
   have hsz:(s.extract k s.size).size=s.size - k:=by simp
   have hst:=dec_step (s.extract k s.size) (by omega)
   have hpos:=dec_pos (s.extract k s.size) (by omega)
   rw [tl_from] at hst
   obtain⟨R,hR⟩:∃ R,(Lib.decodeGo (s.extract k s.size)).1=R:=⟨_,rfl⟩
   obtain⟨K,hK⟩:∃ K,(Lib.decodeGo (s.extract k s.size)).2=K:=⟨_,rfl⟩
   rw [hR,hK] at hD hst
   rw [hK] at hpos
   obtain⟨g,rfl⟩:∃ g,f=g+1:=⟨f - 1,by have h1:=HK.out.1;omega⟩
   have hle:=stepN_le ((tl s).drop k) (by rw [List.length_drop,tl_len];omega)
   rw [List.length_drop,tl_len] at hle
   have HU:Hid (k+(if stepN ((tl s).drop k)=0 then 0 else stepN ((tl s).drop k) + utfP g ((tl s).drop (k+stepN ((tl s).drop k))))=q∧s.size<k+(g+1)):=by
    have h1:=HK.out
    refine⟨?_,h1.1⟩
    have h2:=h1.2
    rw [← List.drop_drop]
    rw [tl_drop s k hlt] at h2 ⊢
    simp only [utfP] at h2
    exact h2
   clear hR hK HK hsz
   by_cases hbad:R=65533∧K=1
   ·obtain⟨rfl,rfl⟩:=hbad
    have HE:Hid (k=q):=by
     have h1:=HU.out.1
     rw [hst] at h1
     have h2:k=q:=by simpa using h1
     exact h2
    clear hst hle HU
    go_wp2_with (go_at_call 51;refine hD.mono ?_;rintro e w' ⟨rfl,hb⟩)
    go_ret
    exact⟨ret_int (by rw [HE.out]),chain hB hb⟩
   ·rw [if_neg hbad] at hst
    have hK4:K≤s.size - k:=by omega
    have hK0:K≠0:=by omega
    ·have HE:Hid (k+K+utfP g ((tl s).drop (k+K))=q∧s.size<k+(g+1)):=by
      have h1:=HU.out
      rw [hst,if_neg hK0] at h1
      exact⟨by omega,h1.2⟩
     clear hst hle HU
     have hbad':((R:Int) == 65533)=false∨((K:Int) == 1)=false:=by
      by_cases h:R=65533
      ·right;simp;omega
      ·left;simp;omega
     rcases hbad' with hb1|hb1
     all_goals
      go_wp2_with (go_at_call 51;refine hD.mono ?_;rintro e w' ⟨rfl,hb⟩)
      all_goals
       go_roundw
       case rel=>exact⟨k+K,g,by omega,by go_num,⟨by have:=HE.out.2;omega,HE.out.1⟩,chain hB hb⟩
       case measure=>simp [intOf];omega
  ·have HE:Hid (k=q):=by
    have h2:=HK.out.2
    rw [List.drop_of_length_le (by rw [tl_len];omega)] at h2
    have:∀ f,utfP f []=0:=fun f=>by cases f <;> rfl
    rw [this] at h2
    exact h2
   go_wp2
   go_ret
   exact⟨ret_int (by rw [HE.out]),hB⟩
end Go.Proofs.YtahnbigkdfmpbaaGreatDoor
namespace Go.Proofs.YtahnbigkdfmpbaaGreatDoor
open Go.RowKit
theorem Tryz.infoT:(Tryz.prog.info? 68).map (fun i=>(i.zero,i.size,i.bytes))=some (some (.agg #[.int .i64 0,.string ByteArray.empty,.int .i64 0]),3,32):=by kernel_rfl
def encT (t:Tok):List Value:=[.int .i64 (t.kind:Nat),.string (bs t.text),.int .i64 (t.at_:Nat)]
def flatT (l:List Tok):List Value:=l.flatMap encT
theorem flatT_append (l m:List Tok):flatT (l++m)=flatT l++flatT m:=by simp [flatT]
theorem flatT_get (l:List Tok) (j i:Nat) (hi:i<3):(flatT l)[j*3+i]? = l[j]?.bind (fun t=>(encT t)[i]?):=by
 induction l generalizing j with
 | nil=>simp [flatT]
 | cons c l ih =>
  have e:flatT (c :: l)=encT c++flatT l:=rfl
  have e3:(encT c).length=3:=rfl
  rw [e]
  cases j with
  | zero=>rw [Nat.zero_mul,Nat.zero_add,List.getElem?_append_left (by omega)];rfl
  | succ j =>
   rw [List.getElem?_append_right (by omega),e3]
   have:(j+1) * 3+i - 3=j*3+i:=by omega
   rw [this,ih,List.getElem?_cons_succ]
def OwnsT (e:TypeId) (w:World) (base:Nat) (v:Value) (l:List Tok):Prop:=w.ownsRow base e 3 v l.length (flatT l)
def CellsT (w:World) (g off:Nat) (l:List Tok):Prop :=
 ∀ j t,l[j]? = some t→w.cell? ⟨g,off+j*3,none⟩=some (.int .i64 (t.kind:Nat))∧w.cell? ⟨g,off+j*3+1,none⟩=some (.string (bs t.text))∧w.cell? ⟨g,off+j*3+2,none⟩=some (.int .i64 (t.at_:Nat))
def TRow (w:World) (v:Value) (l:List Tok):Prop :=
 (∃ a cap,v=.slice a 0 cap∧l=[])∨∃ g off cap,v=.slice (some ⟨g,off,none⟩) l.length cap∧g<w.heap.size∧CellsT w g off l
theorem CellsT.below {w w':World} {B g off:Nat} {l:List Tok} (h:CellsT w g off l) (hb:Below B w w') (hg:g<B):CellsT w' g off l :=
 fun j c hj=>⟨(hb.cell (p:=⟨g,off+j*3,none⟩) hg).trans (h j c hj).1,(hb.cell (p:=⟨g,off+j*3+1,none⟩) hg).trans (h j c hj).2.1,(hb.cell (p:=⟨g,off+j*3+2,none⟩) hg).trans (h j c hj).2.2⟩
theorem OwnsT.cells {e:TypeId} {w:World} {base g cap:Nat} {l:List Tok} (h:OwnsT e w base (.slice (some ⟨g,0,none⟩) l.length cap) l):CellsT w g 0 l:=by
 intro j c hj
 have hlt:j<l.length:=by
  rcases Nat.lt_or_ge j l.length with h1|h1
  ·exact h1
  ·rw [List.getElem?_eq_none h1] at hj;exact absurd hj (by simp)
 have e0:=World.ownsRow.cellAt h (j*3) (by omega)
 have e1:=World.ownsRow.cellAt h (j*3+1) (by omega)
 have e2:=World.ownsRow.cellAt h (j*3+2) (by omega)
 have f0:=flatT_get l j 0 (by omega)
 have f1:=flatT_get l j 1 (by omega)
 have f2:=flatT_get l j 2 (by omega)
 rw [hj] at f0 f1 f2
 rw [Nat.add_zero] at f0
 rw [f0] at e0
 rw [f1] at e1
 rw [f2] at e2
 rw [Nat.zero_add]
 exact⟨e0,e1,e2⟩
theorem OwnsT.form {e:TypeId} {w:World} {base:Nat} {v:Value} {l:List Tok} (h:OwnsT e w base v l):(v=.slice none 0 0∧l=[])∨∃ g cap,v=.slice (some ⟨g,0,none⟩) l.length cap∧base≤g∧g<w.heap.size∧CellsT w g 0 l:=by
 have h0:=h
 obtain⟨h1,h2 | ⟨g,cap,cur,rfl,hg,hh,hn,hc,hs,ht⟩⟩:=h
 ·exact .inl ⟨h2.1,List.length_eq_zero_iff.1 h2.2⟩
 ·exact .inr ⟨g,cap,rfl,hg,(World.ownsRow.lt h0 g rfl).2,OwnsT.cells h0⟩
theorem OwnsT.row {e:TypeId} {w:World} {base:Nat} {v:Value} {l:List Tok} (h:OwnsT e w base v l):TRow w v l:=by
 rcases h.form with ⟨rfl,rfl⟩|⟨g,cap,rfl,hb,hg,hc⟩
 ·exact .inl ⟨_,_,rfl,rfl⟩
 ·exact .inr ⟨g,0,cap,rfl,hg,hc⟩
theorem TRow.below {w w':World} {v:Value} {l:List Tok} (h:TRow w v l) (hb:Below w.heap.size w w'):TRow w' v l:=by
 rcases h with h|⟨g,off,cap,rfl,hg,hc⟩
 ·exact .inl h
 ·exact .inr ⟨g,off,cap,rfl,Nat.lt_of_lt_of_le hg hb.size,hc.below hb hg⟩
theorem TRow.len {w:World} {v:Value} {l:List Tok} (h:TRow w v l):∃ a cap,v=.slice a l.length cap:=by
 rcases h with ⟨a,cap,rfl,rfl⟩|⟨g,off,cap,rfl,_,_⟩
 ·exact⟨_,_,rfl⟩
 ·exact⟨_,_,rfl⟩
theorem TRow.cons {w:World} {v:Value} {l:List Tok} (h:TRow w v l) (hl:l≠[]):∃ g off cap,v=.slice (some ⟨g,off,none⟩) l.length cap∧g<w.heap.size∧CellsT w g off l:=by
 rcases h with ⟨a,cap,rfl,rfl⟩|h
 ·exact absurd rfl hl
 ·exact h
theorem OwnsT.below {e:TypeId} {w w':World} {base:Nat} {v:Value} {l:List Tok} (h:OwnsT e w base v l) (hb:Below w.heap.size w w'):OwnsT e w' base v l:=by
 have hlt:=World.ownsRow.lt h
 obtain⟨h1,h2⟩:=h
 refine⟨h1,?_⟩
 rcases h2 with h2|⟨g,cap,cur,rfl,hg,hh,r⟩
 ·exact .inl h2
 ·exact .inr ⟨g,cap,cur,rfl,hg,(hb.block g (hlt g rfl).2).trans hh,r⟩
theorem wpList_append_tok {w:World} {ops:Array Oper} {rest:List Oper} {o:Oper} {a:Act} {Q:Exit→Act→World→Prop} (st e:TypeId) (hu:Tryz.prog.underlying st=some (.slice e))
  (hi:(Tryz.prog.info? e).map (fun i=>(i.zero,i.size,i.bytes))=some (some (.agg #[.int .i64 0,.string ByteArray.empty,.int .i64 0]),3,32))
  (hgd:o.guard=none) (s x:Operand)
  (ho:o.op=.call { callee:=.builtin .append,args:=#[s,x],argTypes:=#[st,st] }) (base:Nat) (v:Value) (ad:Addr) (u:List Tok) (t:Tok) (hs:a.eval s=v) (hx:a.eval x=.slice (some ad) 1 1)
  (hO:OwnsT e w base v u) (hr:∀ j x,(encT t)[j]? = some x→w.cell? (ad.add j)=some x) (hn:u.length≤200000) (hb:base≤w.heap.size)
  (h:∀ v' w',OwnsT e w' base v' (u ++ [t])→w.grownBy w' v.ownBlock→wpList Tryz.prog ops Q rest (a.put o.dst v') w'):wpList Tryz.prog ops Q (o :: rest) a w:=by
 refine wpList_plain hgd fun K hK'=>?_
 obtain⟨i0,hi,hz0,hz1,hz2⟩:=info_parts hi
 obtain⟨v',w',hrun,r1,r2,_,r4⟩:=run_append_own_at (P:=Tryz.prog) w base st o.type e i0 _ 3 32 hu hi hz0 hz1 hz2 rfl (by decide) v u.length (flatT u) hO ad 1 1 (encT t) rfl hr (by
  intro u hu
  simp [encT] at hu
  rcases hu with rfl|rfl|rfl <;> rfl) (by unfold maxLen;omega) (by omega) hb
 have r1':OwnsT e w' base v' (u ++ [t]):=by
  unfold OwnsT
  rw [flatT_append,List.length_append]
  have:flatT [t]=encT t:=by simp [flatT]
  rw [this]
  exact r1
 unfold Oper.wp
 simp [execOp,ho,resolve,invoke,builtin,hs,hx,hrun,Result.andThen]
 exact hK' _ _ (h v' w' r1' r2)
theorem own_grown {e:TypeId} {W W':World} {base:Nat} {v:Value} {u:List Tok} (hO:OwnsT e W base v u) (hg:W.grownBy W' v.ownBlock) (hb:base≤W.heap.size):Below base W W' :=
 (Below.refl base W).grown hg hb (fun k hk=>(World.ownsRow.lt hO k hk).1)
theorem cells_lit (w:World) (t:Tok) (ty:TypeId) (X:ByteArray) (hX:X=bs t.text) (k a:Int) (hk:k=(t.kind:Nat)) (ha:a=(t.at_:Nat)) :
  ∀ j x,(encT t)[j]? = some x→(w.alloc (.cells #[.int .i64 k,.string X,.int .i64 a] ty)).cell? ((⟨w.heap.size,0,none⟩:Addr).add j)=some x:=by
 subst hX hk ha
 intro j x hj
 rw [Addr.add_lit]
 match j,hj with
 | 0,hj=>simp [encT] at hj;subst hj;simp [go_sem]
 | 1,hj=>simp [encT] at hj;subst hj;simp [go_sem]
 | 2,hj=>simp [encT] at hj;subst hj;simp [go_sem]
 | j+3,hj=>simp [encT] at hj
end Go.Proofs.YtahnbigkdfmpbaaGreatDoor
namespace Go.Proofs.YtahnbigkdfmpbaaGreatDoor
open Go.RowKit
theorem scanP_in {s:ByteArray} {k f:Nat} (hlt:k<s.size) (acc:List Tok) (R:Nat ⊕ List Tok) (h:finR acc (scanP (f+1) k ((tl s).drop k))=R) :
  (tokN ((tl s).drop k)=0→R=.inl k)∧(tokN ((tl s).drop k)≠0→finR (acc ++ [⟨kindN ((tl s).drop k),((tl s).drop k).take (tokN ((tl s).drop k)),k⟩]) (scanQ f (k+tokN ((tl s).drop k)) ((tl s).drop (k+tokN ((tl s).drop k))))=R):=by
 have hne:(tl s).drop k≠[]:=by rw [tl_drop s k hlt];simp
 refine⟨fun h0=>?_,fun h0=>?_⟩
 ·rw [scanP_bad _ _ _ hne h0] at h;exact h.symm
 ·rw [scanP_tok _ _ _ hne h0,List.drop_drop] at h
  rw [← h]
  cases scanQ f (k+tokN ((tl s).drop k)) ((tl s).drop (k+tokN ((tl s).drop k))) with
  | inl e=>rfl
  | inr ts=>simp [finR]
theorem scanP_out {s:ByteArray} {k f:Nat} (hlt:¬ k<s.size) (hf:s.size<k+f) (hk:k≤s.size) (acc:List Tok) (R:Nat ⊕ List Tok) (h:finR acc (scanP f k ((tl s).drop k))=R):R=.inr (acc ++ [⟨0,[],s.size⟩]):=by
 obtain⟨g,rfl⟩:∃ g,f=g+1:=⟨f - 1,by omega⟩
 rw [List.drop_of_length_le (by rw [tl_len];omega),scanP_nil] at h
 obtain rfl:k=s.size:=by omega
 exact h.symm
theorem scanF_mid {s:ByteArray} (hs:s.size≤65536) (hu:¬ utfP (s.size+1) (tl s) < s.size):scanF (tl s)=ansOf (scanP (s.size+1) (passN false (tl s)) ((tl s).drop (passN false (tl s)))):=by
 rw [scanF,tl_len,if_neg (by omega),if_neg hu]
theorem scanF_utf {s:ByteArray} (hs:s.size≤65536) (hu:utfP (s.size+1) (tl s) < s.size):scanF (tl s)=([],utfP (s.size+1) (tl s),60):=by
 rw [scanF,tl_len,if_neg (by omega),if_pos hu]
theorem scanF_big {s:ByteArray} (hs:65536<s.size):scanF (tl s)=([],0,3):=by
 rw [scanF,tl_len,if_pos hs]
theorem app_below {e:TypeId} {w wr w3:World} {base:Nat} {v:Value} {u:List Tok} {o:Obj} (hB:Below base w wr) (hb:base≤wr.heap.size) (hO:OwnsT e wr base v u) (hg:(wr.alloc o).grownBy w3 v.ownBlock):Below base w w3 :=
 (hB.alloc hb o).trans (own_grown (hO.below (below_alloc wr o)) hg (by simp;omega))
theorem finR_nil (r:Nat ⊕ List Tok):finR [] r=r:=by cases r <;> rfl
theorem owns_nil (e:TypeId) (w:World) (base:Nat):OwnsT e w base (.slice none 0 0) []:=World.ownsRow_nil _ _ _ _
set_option maxRecDepth 100000 in
set_option maxHeartbeats 2000000 in
theorem scan_any (s:ByteArray) (w:World) (hs:s.size≤maxLen) (hT:Tabs w) :
  Calls Tryz.prog 16 #[.string s] w fun e w'=>∃ v,e=.returned (.tuple #[v,.int .i64 ((scanF (tl s)).2.1:Nat),.int .i64 ((scanF (tl s)).2.2:Nat)])∧OwnsT 68 w' w.heap.size v (scanF (tl s)).1∧Below w.heap.size w w':=by
 unfold maxLen at hs
 by_cases hbig:65536<s.size
 ·rw [scanF_big hbig]
  have e1:(65536:Int) < (s.size:Int):=by omega
  go_enter Tryz.func16,Tryz.ntmps16
  go_wp2
  go_ret3
  exact⟨_,rfl,owns_nil _ _ _,Below.refl _ _⟩
 ·have hs6:s.size≤65536:=by omega
  have hW:=whole_any s w hs6 hT
  by_cases hu:utfP (s.size+1) (tl s) < s.size
  ·rw [scanF_utf hs6 hu]
   generalize utfP (s.size+1) (tl s)=q at *
   go_enter Tryz.func16,Tryz.ntmps16
   go_wp2_with (go_at_call 27;refine hW.mono ?_;rintro e w' ⟨rfl,hb⟩)
   go_ret3
   exact⟨_,rfl,owns_nil _ _ _,hb⟩
  ·rw [scanF_mid hs6 hu]
   obtain⟨R,hR⟩:∃ R,scanP (s.size+1) (passN false (tl s)) ((tl s).drop (passN false (tl s)))=R:=⟨_,rfl⟩
   rw [hR]
   have HR:Hid (_=_):=hR
   clear hR
   have hple:=passN_le false (tl s)
   rw [tl_len] at hple
   have hP0:=fun w=>pass_any s 0 w (Nat.zero_le _) hs6
   simp only [List.drop_zero,Nat.zero_add] at hP0
   have hPn:∀ (k:Nat) (w:World),k≤s.size→Calls Tryz.prog 28 #[.string s,.int .i64 k] w fun e w'=>e=.returned (.int .i64 ((k+passN false ((tl s).drop k):Nat):Int))∧w'=w:=fun k w h=>pass_any s k w h hs6
   generalize utfP (s.size+1) (tl s)=q at *
   generalize passN false (tl s)=p0 at *
   go_enter Tryz.func16,Tryz.ntmps16
   go_wp2_with (first
    | (go_at_call 27;refine hW.mono ?_;rintro e w' ⟨rfl,hb⟩)
    | (go_at_call 28;refine (hP0 _).mono ?_;rintro e w2 ⟨rfl,hw⟩;rw [hw]))
   go_loopw [6,7] (fun o a wr=>∃ (k f:Nat) (acc:List Tok),k≤s.size∧a=.int .i64 k∧acc.length≤k∧OwnsT 68 wr w.heap.size o acc∧Below w.heap.size w wr∧Hid (s.size<k+f∧finR acc (scanP f k ((tl s).drop k))=R)) (fun _ a _=>s.size - (intOf a).toNat)
   case atStart=>exact⟨p0,s.size+1,[],hple,rfl,Nat.zero_le _,owns_nil _ _ _,hb,⟨by omega,by rw [finR_nil];exact HR⟩⟩
   case round =>
    obtain⟨k,f,acc,hk,rfl,hacc,hO,hB,HK⟩:=hrel
    by_cases hlt:k<s.size
    ·obtain⟨f,rfl⟩:∃ g,f=g+1:=⟨f - 1,by have h1:=HK.out.1;omega⟩
     obtain⟨hA,hN⟩:=scanP_in hlt acc R HK.out.2
     have HF:Hid (s.size<k+(f+1)):=HK.out.1
     have hF:=first_any (s.extract k s.size) wr (by simp;omega) (hT.below hB)
     rw [tl_from] at hF
     have htl:=tokN_le ((tl s).drop k)
     rw [List.length_drop,tl_len] at htl
     by_cases h0:tokN ((tl s).drop k)=0
     ·have HA:Hid (R=.inl k):=hA h0
      have e1:firstF ((tl s).drop k)=(0,[]):=by rw [firstF,if_pos h0]
      have e2:bs []=⟨#[]⟩:=rfl
      rw [e1,e2] at hF
      clear e1 e2 hN hA h0 htl HK
      go_wp2_with (go_at_call 29;refine hF.mono ?_;rintro e w2 ⟨rfl,hb2⟩)
      go_ret3
      exact⟨_,by rw [HA.out];rfl,by rw [HA.out];exact owns_nil _ _ _,chain hB hb2⟩
     ·have HN:Hid (_=_):=hN h0
      have e1:firstF ((tl s).drop k)=(kindN ((tl s).drop k),((tl s).drop k).take (tokN ((tl s).drop k))):=by rw [firstF,if_neg h0]
      rw [e1] at hF
      obtain⟨n,hn⟩:∃ n,tokN ((tl s).drop k)=n:=⟨_,rfl⟩
      obtain⟨K,hK⟩:∃ K,kindN ((tl s).drop k)=K:=⟨_,rfl⟩
      obtain⟨T,hTx⟩:∃ T,((tl s).drop k).take n=T:=⟨_,rfl⟩
      have hTl:T.length=n:=by rw [← hTx,List.length_take,List.length_drop,tl_len];omega
      rw [hn] at HN hF htl h0
      rw [hK] at HN hF
      rw [hTx] at HN hF
      have hXs:(bs T).size=n:=by rw [bs_size,hTl]
      have hP:=fun w=>hPn (k+n) w (by omega)
      have hple2:=passN_le false ((tl s).drop (k+n))
      rw [List.length_drop,tl_len] at hple2
      obtain⟨m,hm⟩:∃ m,passN false ((tl s).drop (k+n))=m:=⟨_,rfl⟩
      simp only [hm] at hP
      have HM:Hid (_=_):=hm
      rw [hm] at hple2
      obtain⟨X,hX⟩:∃ X,bs T=X:=⟨_,rfl⟩
      simp only [hX] at hF hXs
      have HX:Hid (X=bs T):=hX.symm
      have hsz:=hB.size
      clear hX hm hTx hK hn hN hA HK e1
      have hXe:X.toList.isEmpty=false:=by
       rw [HX.out,Lib.toList_data,tl_def,tl_bs]
       cases T with
       | nil=>simp at hTl;omega
       | cons _ _=>rfl
      go_wp2_with (first
       | (go_at_call 29;refine hF.mono ?_;rintro e w2 ⟨rfl,hb2⟩)
       | (at_builtin;refine wpList_append_tok 59 68 Tryz.underlying59 Tryz.infoT rfl _ _ rfl w.heap.size _ ⟨w2.heap.size,0,none⟩ acc ⟨K,T,k⟩ rfl rfl ((hO.below hb2).below (below_alloc _ _)) (cells_lit _ _ _ _ HX.out _ _ rfl rfl) (by omega) (by have:=hb2.size;simp;omega) ?_;intro v' w3 hO' hg')
       | (go_at_call 28;refine (hP _).mono ?_;rintro e w4 ⟨rfl,hw⟩;rw [hw]))
      go_roundw
      case rel=>exact⟨k+n+m,f,acc ++ [⟨K,T,k⟩],by omega,by go_num,by simp;omega,hO',app_below (hB.trans (hb2.mono hsz)) (by have:=hb2.size;omega) (hO.below hb2) hg',⟨by have:=HF.out;omega,by
       have h1:=HN.out
       rw [scanQ,HM.out,List.drop_drop] at h1
       exact h1⟩⟩
      case measure=>simp [intOf];omega
    ·have HE:Hid (R=.inr (acc ++ [⟨0,[],s.size⟩])):=scanP_out hlt HK.out.1 hk acc R HK.out.2
     have hsz:=hB.size
     clear HK
     go_wp2_with (at_builtin;refine wpList_append_tok 59 68 Tryz.underlying59 Tryz.infoT rfl _ _ rfl w.heap.size _ ⟨wr.heap.size,0,none⟩ acc ⟨0,[],s.size⟩ rfl rfl (hO.below (below_alloc _ _)) (cells_lit _ _ _ _ rfl _ _ rfl rfl) (by omega) (by simp;omega) ?_;intro v' w3 hO' hg')
     go_ret3
     exact⟨_,by rw [HE.out];rfl,by rw [HE.out];exact hO',app_below hB hsz hO hg'⟩
end Go.Proofs.YtahnbigkdfmpbaaGreatDoor
