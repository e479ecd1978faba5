/- Whether a value may be: maps, kinds that are none; all together. -/
import Derived.Test.YteddjlbfbpecjaaGreatDoorShape
import Derived.Deep.QuietTactic
import Derived.BigQuiet
import Derived.Deep.RegionWith
import Derived.RecoverIn
import Derived.LaidEql
import Derived.WideLaws
namespace Go.Proofs.YteddjlbfbpecjaaGreatDoor
section
open Go.RowKit Go.Shelf
set_option maxHeartbeats 1000000
set_option linter.all false
theorem Jv.below {B:Nat} {w w':World} {ka:Option Addr} {ks:List ByteArray} (hk:Jv B w ka ks) (h:Below B w w'):Jv B w' ka ks:=by
 rcases hk with hk | ⟨bk,off,e,hlt,hc⟩
 ·exact .inl hk
 ·exact .inr ⟨bk,off,e,hlt,fun i hi=>⟨(h.cell (p:=⟨bk,off+i,none⟩) hlt).trans (hc i hi).1,(hc i hi).2⟩⟩
theorem Zrf {w w1:World} {A:Array Value} {v0 v1 v2 v3 v4 v5:Value} (hb:Below ((w.alloc (.cells A 60)).alloc (.cells #[v0,v1,v2,v3,v4,v5] 60)).heap.size ((w.alloc (.cells A 60)).alloc (.cells #[v0,v1,v2,v3,v4,v5] 60)) w1) :
  w1.cell? ⟨w.heap.size+1,0,none⟩=some v0∧w1.cell? ⟨w.heap.size+1,1,none⟩=some v1∧w1.cell? ⟨w.heap.size+1,2,none⟩=some v2∧w1.cell? ⟨w.heap.size+1,3,none⟩=some v3 ∧
  w1.cell? ⟨w.heap.size+1,4,none⟩=some v4∧w1.cell? ⟨w.heap.size+1,5,none⟩=some v5∧w1.frozen? ⟨w.heap.size+1,4,none⟩=false∧w1.frozen? ⟨w.heap.size+1,5,none⟩=false∧w.heap.size+2≤w1.heap.size:=by
 have e:w1.heap[w.heap.size+1]?=some (.cells #[v0,v1,v2,v3,v4,v5] 60 (0,0)):=by
  rw [hb.block _ (by simp)]
  have:=World.alloc_heap_new (w.alloc (.cells A 60)) (.cells #[v0,v1,v2,v3,v4,v5] 60)
  rwa [World.size_alloc] at this
 have hz:=hb.size
 simp only [World.size_alloc] at hz
 refine ⟨?_,?_,?_,?_,?_,?_,?_,?_,hz⟩<;>first | (unfold World.cell?;simp only [e];rfl) | (unfold World.frozen?;simp only [e];rfl)
theorem Zyj (B:Nat) (k:Int) (b:Bool) (n:Int) (s:ByteArray) (ka:Option Addr) (kc:Nat) (la:Option Addr) (lc:Nat) (ks:List ByteArray) (ts:List Zk) (w:World) (hs1:s.size≤maxLen) (hs2:ks.length≤kc) (hs3:kc≤maxLen) (hB:B≤w.heap.size) (hky:Jv B w ka ks) (hT:Zla w) (hk0:k=5) :
  Calls Tryz.prog 205 #[.agg #[.int .i64 k,.bool b,.int .i64 n,.string s,.slice ka ks.length kc,.slice la ts.length lc]] w fun e w'=>e=.returned (.bool (Zz (.mk k b n s ks ts)))∧Below w.heap.size w w':=by
 have hsh:Zz (.mk k b n s ks ts)=(((ks.length==ts.length&&Zbq ks)&&Zal b n s 0 0)&&Lib.validD s.data.toList):=by subst hk0;rfl
 have e0:(k==0)=false:=Zh (by omega)
 have e1:(k==1)=false:=Zh (by omega)
 have e2:(k==2)=false:=Zh (by omega)
 have e6:(k==6)=false:=Zh (by omega)
 have e7:(k==7)=false:=Zh (by omega)
 have e3:(k==3)=false:=Zh (by omega)
 have e5:(k==5)=true:=Jy hk0
 clear hk0
 by_cases hl:ks.length=ts.length
 ·have hn:((ks.length:Int) != (ts.length:Int))=false:=by rw [hl];simp
  have hl2:(ks.length==ts.length)=true:=beq_iff_eq.2 hl
  rw [hl2,Bool.true_and] at hsh
  have HL:Hid (ks.length=ts.length):=hl
  clear hl hl2
  go_enter Tryz.func205,Tryz.ntmps205
  go_wp2_with fail
  refine (Zq6 B ka kc ks _ (hky.below (by exact ((Below.refl _ w).alloc hB _).alloc (by simp;omega) _)) hs2 hs3 (hT.below (by exact ((Below.refl _ w).alloc (Nat.le_refl _) _).alloc (by simp) _))).mono ?_
  rintro e w1 ⟨rfl,hb1⟩
  have hB1:Below w.heap.size w w1:=(Zbr (v:=.string s) hb1 rfl).1
  cases hr:Zbq ks with
  | false =>
   have HS:Hid (Zz (.mk k b n s ks ts)=false):=by unfold Hid;rw [hsh,hr];rfl
   clear hr hsh hb1
   go_wp2_with fail
   go_ret
   exact ⟨by rw [HS.out];rfl,hB1⟩
  | true =>
   rw [hr,Bool.true_and] at hsh
   obtain ⟨c0,c1,c2,c3,c4,c5,f4,f5,hz⟩:=Zrf hb1
   have cs:w1.cell? ⟨w.heap.size,3,none⟩=some (.string s):=(Zbr (v:=.string s) hb1 rfl).2
   clear hr hb1
   go_wp2_with fail
   refine (Zb9 _ _ _ _ _ _ _ _ _ _ _).mono ?_
   rintro e w2 ⟨rfl,hb2⟩
   have hB2:Below w.heap.size w w2:=((hB1.setCell (p:=⟨w.heap.size+1,4,none⟩) (by show _≤w.heap.size+1;omega) _).setCell (p:=⟨w.heap.size+1,5,none⟩) (by show _≤w.heap.size+1;omega) _).trans (hb2.mono (by simp [World.setCell];omega))
   have cs2:w2.cell? ⟨w.heap.size,3,none⟩=some (.string s):=by
    rw [hb2.cell (p:=⟨w.heap.size,3,none⟩) (by simp [World.setCell];omega)]
    rw [World.cell?_of_block (Below.heap_setCell _ _ _ _ (by show w.heap.size≠w.heap.size+1;omega)),World.cell?_of_block (Below.heap_setCell _ _ _ _ (by show w.heap.size≠w.heap.size+1;omega))]
    exact cs
   clear hb2 c0 c1 c2 c3 c4 c5 f4 f5 cs
   have hT2:=hT.below hB2
   cases hbl:Zal b n s 0 0 with
   | false =>
    have HS:Hid (Zz (.mk k b n s ks ts)=false):=by unfold Hid;rw [hsh,hbl];rfl
    clear hbl hsh
    go_wp2_with fail
    go_ret
    exact ⟨by rw [HS.out];rfl,hB2⟩
   | true =>
    have HS:Hid (Zz (.mk k b n s ks ts)=Lib.validD s.data.toList):=by unfold Hid;rw [hsh,hbl];rfl
    clear hbl hsh
    go_wp2_with fail
    refine (Za7 _ _ hs1 hT2).mono ?_
    rintro e w3 ⟨rfl,hb3⟩
    go_wp2_with fail
    go_ret
    exact ⟨by rw [HS.out];rfl,hB2.trans (hb3.mono hB2.size)⟩
 ·have hn:((ks.length:Int) != (ts.length:Int))=true:=by rw [bne_iff_ne];omega
  have hl2:(ks.length==ts.length)=false:=beq_eq_false_iff_ne.2 hl
  have HS:Hid (Zz (.mk k b n s ks ts)=false):=by unfold Hid;rw [hsh,hl2];rfl
  clear hl hl2 hsh
  go_enter Tryz.func205,Tryz.ntmps205
  go_wp2_with fail
  go_ret
  exact ⟨by rw [HS.out];rfl,((Below.refl _ w).alloc (Nat.le_refl _) _).alloc (by simp) _⟩
theorem Zn7 (k:Int) (b:Bool) (n:Int) (s:ByteArray) (ka:Option Addr) (kc:Nat) (la:Option Addr) (lc:Nat) (ks:List ByteArray) (ts:List Zk) (w:World)
  (h0:k≠0) (h1:k≠1) (h2:k≠2) (h3:k≠3) (h4:k≠4) (h5:k≠5) (h6:k≠6) (h7:k≠7) :
  Calls Tryz.prog 205 #[.agg #[.int .i64 k,.bool b,.int .i64 n,.string s,.slice ka ks.length kc,.slice la ts.length lc]] w fun e w'=>e=.returned (.bool (Zz (.mk k b n s ks ts)))∧Below w.heap.size w w':=by
 have HS:Hid (Zz (.mk k b n s ks ts)=false):=by
  unfold Hid
  simp [Zz,h0,h1,h2,h3,h4,h5,h6,h7]
 have e0:=Zh h0
 have e1:=Zh h1
 have e2:=Zh h2
 have e3:=Zh h3
 have e4:=Zh h4
 have e5:=Zh h5
 have e6:=Zh h6
 have e7:=Zh h7
 clear h0 h1 h2 h3 h4 h5 h6 h7
 go_enter Tryz.func205,Tryz.ntmps205
 go_wp2_with fail
 go_ret
 exact ⟨by rw [HS.out];rfl,((Below.refl _ w).alloc (Nat.le_refl _) _).alloc (by simp) _⟩
theorem Zrg (B:Nat) (v:Value) (T:Zk) (w:World) (hB:B≤w.heap.size) (hv:Zaw B w v T) (hT:Zla w) :
  Calls Tryz.prog 205 #[v] w fun e w'=>e=.returned (.bool (Zz T))∧Below w.heap.size w w':=by
 obtain ⟨k,b,n,s,ks,ts⟩:=T
 simp only [Zaw] at hv
 obtain ⟨ka,kc,la,lc,rfl,⟨hs1,hs2,hs3,hs4,hs5⟩,hk,ht⟩:=hv
 by_cases h0:k=0
 ·exact Zxj _ _ _ _ _ _ _ _ _ _ _ hs1 hT h0
 by_cases h1:k=1
 ·exact Zxk _ _ _ _ _ _ _ _ _ _ _ hs1 hT h1
 by_cases h2:k=2
 ·exact Zxl _ _ _ _ _ _ _ _ _ _ _ hs1 hT h2
 by_cases h3:k=3
 ·exact Zxo _ _ _ _ _ _ _ _ _ _ _ hs1 hT h3
 by_cases h4:k=4
 ·exact Zxp _ _ _ _ _ _ _ _ _ _ _ hs1 hT h4
 by_cases h5:k=5
 ·exact Zyj B _ _ _ _ _ _ _ _ _ _ _ hs1 hs2 hs3 hB hk hT h5
 by_cases h6:k=6
 ·exact Zxm _ _ _ _ _ _ _ _ _ _ _ hs1 hT h6
 by_cases h7:k=7
 ·exact Zxn _ _ _ _ _ _ _ _ _ _ _ hs1 hT h7
 exact Zn7 _ _ _ _ _ _ _ _ _ _ _ h0 h1 h2 h3 h4 h5 h6 h7
end
section
open Go.RowKit Go.Shelf
set_option maxHeartbeats 1000000
set_option linter.all false
def Zfw (a b:Int):Int:=if a<b then -1 else if b<a then 1 else 0
theorem Znk (a b:Int) (w:World):Calls Tryz.prog 221 #[.int .i64 a,.int .i64 b] w fun e w'=>e=.returned (.int .i64 (Zfw a b))∧w'=w:=by
 unfold Zfw
 by_cases h1:a<b
 ·rw [if_pos h1]
  go_enter Tryz.func221,Tryz.ntmps221
  go_wp2
  go_ret
  exact ⟨rfl,rfl⟩
 ·rw [if_neg h1]
  by_cases h2:b<a
  ·rw [if_pos h2]
   go_enter Tryz.func221,Tryz.ntmps221
   go_wp2
   go_ret
   exact ⟨rfl,rfl⟩
  ·rw [if_neg h2]
   go_enter Tryz.func221,Tryz.ntmps221
   go_wp2
   go_ret
   exact ⟨rfl,rfl⟩
theorem Zty (a b:Int) (w:World):Calls Tryz.prog 225 #[.int .i64 a,.int .i64 b] w fun e w'=>e=.returned (.int .i64 (Zfw a b))∧w'=w:=by
 unfold Zfw
 by_cases h1:a<b
 ·rw [if_pos h1]
  go_enter Tryz.func225,Tryz.ntmps225
  go_wp2
  go_ret
  exact ⟨rfl,rfl⟩
 ·rw [if_neg h1]
  by_cases h2:b<a
  ·rw [if_pos h2]
   go_enter Tryz.func225,Tryz.ntmps225
   go_wp2
   go_ret
   exact ⟨rfl,rfl⟩
  ·rw [if_neg h2]
   go_enter Tryz.func225,Tryz.ntmps225
   go_wp2
   go_ret
   exact ⟨rfl,rfl⟩
theorem Ztz (a b:Int) (w:World):Calls Tryz.prog 227 #[.int .i64 a,.int .i64 b] w fun e w'=>e=.returned (.int .i64 (Zfw a b))∧w'=w:=by
 unfold Zfw
 by_cases h1:a<b
 ·rw [if_pos h1]
  go_enter Tryz.func227,Tryz.ntmps227
  go_wp2
  go_ret
  exact ⟨rfl,rfl⟩
 ·rw [if_neg h1]
  by_cases h2:b<a
  ·rw [if_pos h2]
   go_enter Tryz.func227,Tryz.ntmps227
   go_wp2
   go_ret
   exact ⟨rfl,rfl⟩
  ·rw [if_neg h2]
   go_enter Tryz.func227,Tryz.ntmps227
   go_wp2
   go_ret
   exact ⟨rfl,rfl⟩
def Zl2 (b:Bool):Int:=if b then 2 else 0
theorem Zt0 (b:Bool) (w:World):Calls Tryz.prog 226 #[.bool b] w fun e w'=>e=.returned (.int .i64 (Zl2 b))∧w'=w:=by
 cases b
 all_goals
  go_enter Tryz.func226,Tryz.ntmps226
  go_wp2
  go_ret
  exact ⟨rfl,rfl⟩
def Zfa (k:Int):Int:=if k=0 then 7 else if k=2 then 6 else if k=1 then 5 else if k=3 then 4 else if k=4 then 3 else if k=7 then 2 else if k=6 then 1 else 0
theorem Zw6 (k:Int) (w:World):Calls Tryz.prog 222 #[.int .i64 k] w fun e w'=>e=.returned (.int .i64 (Zfa k))∧w'=w:=by
 by_cases h0:k=0
 ·subst h0;go_enter Tryz.func222,Tryz.ntmps222;go_wp2;go_ret;exact ⟨rfl,rfl⟩
 by_cases h2:k=2
 ·subst h2;go_enter Tryz.func222,Tryz.ntmps222;go_wp2;go_ret;exact ⟨rfl,rfl⟩
 by_cases h1:k=1
 ·subst h1;go_enter Tryz.func222,Tryz.ntmps222;go_wp2;go_ret;exact ⟨rfl,rfl⟩
 by_cases h3:k=3
 ·subst h3;go_enter Tryz.func222,Tryz.ntmps222;go_wp2;go_ret;exact ⟨rfl,rfl⟩
 by_cases h4:k=4
 ·subst h4;go_enter Tryz.func222,Tryz.ntmps222;go_wp2;go_ret;exact ⟨rfl,rfl⟩
 by_cases h7:k=7
 ·subst h7;go_enter Tryz.func222,Tryz.ntmps222;go_wp2;go_ret;exact ⟨rfl,rfl⟩
 by_cases h6:k=6
 ·subst h6;go_enter Tryz.func222,Tryz.ntmps222;go_wp2;go_ret;exact ⟨rfl,rfl⟩
 have hr:Zfa k=0:=by simp [Zfa,h0,h2,h1,h3,h4,h7,h6]
 have e0:=Zh h0
 have e1:=Zh h1
 have e2:=Zh h2
 have e3:=Zh h3
 have e4:=Zh h4
 have e6:=Zh h6
 have e7:=Zh h7
 rw [hr]
 clear hr h0 h1 h2 h3 h4 h6 h7
 go_enter Tryz.func222,Tryz.ntmps222
 go_wp2
 go_ret
 exact ⟨rfl,rfl⟩
def agS  : List ByteArray→List ByteArray→Int
 | [],[]=>0
 | [],_::_=>-1
 | _::_,[]=>1
 | a::r,b::t=>if Lib.compareBytes a.data.toList b.data.toList=0 then agS r t else Lib.compareBytes a.data.toList b.data.toList
theorem Zw7 {a b:List ByteArray}:∀ {i:Nat},i<a.length→i<b.length→agS (a.drop i) (b.drop i) =
  (if Lib.compareBytes (a.getD i ⟨#[]⟩).data.toList (b.getD i ⟨#[]⟩).data.toList=0 then agS (a.drop (i+1)) (b.drop (i+1)) else Lib.compareBytes (a.getD i ⟨#[]⟩).data.toList (b.getD i ⟨#[]⟩).data.toList):=by
 intro i h1 h2
 rw [List.drop_eq_getElem_cons h1,List.drop_eq_getElem_cons h2,agS]
 simp [List.getD,h1,h2]
theorem Zz6 {a b:List ByteArray} {i:Nat} (h:i=min a.length b.length):agS (a.drop i) (b.drop i)=Zfw a.length b.length:=by
 unfold Zfw
 by_cases h1:a.length<b.length
 ·rw [if_pos (by omega),List.drop_of_length_le (by omega),List.drop_eq_getElem_cons (by omega:i<b.length)];rfl
 ·rw [if_neg (by omega)]
  by_cases h2:b.length<a.length
  ·rw [if_pos (by omega),List.drop_of_length_le (l:=b) (by omega),List.drop_eq_getElem_cons (by omega:i<a.length)];rfl
  ·rw [if_neg (by omega),List.drop_of_length_le (by omega),List.drop_of_length_le (by omega)];rfl
theorem Zkj (B:Nat) (ka kb:Option Addr) (ca cb:Nat) (a b:List ByteArray) (w:World) (ha:Jv B w ka a) (hb:Jv B w kb b) (h1:a.length≤ca) (h2:ca≤maxLen) (h3:b.length≤cb) (h4:cb≤maxLen) :
  Calls Tryz.prog 223 #[.slice ka a.length ca,.slice kb b.length cb,.func (.func 135) #[] #[]] w fun e w'=>e=.returned (.int .i64 (agS a b))∧∃ q,w'=w.drewN q:=by
 unfold maxLen at h2 h4
 have HN:Hid (min (a.length:Int) (b.length:Int)=((min a.length b.length:Nat):Int)):=by show _=_;omega
 go_enter Tryz.func223,Tryz.ntmps223
 go_wp2_with fail
 rw [HN.out]
 generalize hm:min a.length b.length=m at *
 have hma:m≤a.length:=by omega
 have hmb:m≤b.length:=by omega
 have HM:Hid (m=min a.length b.length):=hm.symm
 clear hm
 go_loopw [14] (fun i wr=>∃ j:Nat,j≤m∧i=.int .i64 j∧(∃ q,wr=w.drewN q)∧agS (a.drop j) (b.drop j)=agS a b) (fun i _=>m - (intOf i).toNat)
 case atStart=>exact ⟨0,Nat.zero_le _,rfl,⟨0,rfl⟩,rfl⟩
 case round =>
  obtain ⟨j,hj,rfl,⟨q,hwr⟩,hag⟩:=hrel
  subst hwr
  have HAG:Hid (agS (a.drop j) (b.drop j)=agS a b):=hag
  clear hag
  by_cases hlt:j<m
  ·obtain ⟨bk,off,rfl,hbk,hkey⟩:=ha.resolve_left (by intro e;subst e;simp at hma;omega)
   obtain ⟨bk',off',rfl,hbk',hkey'⟩:=hb.resolve_left (by intro e;subst e;simp at hmb;omega)
   have hc:=(hkey j (by omega)).1
   have hc':=(hkey' j (by omega)).1
   have HST:=Zb (Zw7 (a:=a) (b:=b) (i:=j) (by omega) (by omega))
   generalize a.getD j ⟨#[]⟩=x at *
   generalize b.getD j ⟨#[]⟩=y at *
   clear hkey hkey'
   have hja:j<a.length:=by omega
   have hjb:j<b.length:=by omega
   go_wp2_with fail
   go_region_with (go_at_call 135;refine (Tryz.strings_Compare _ _ _).mono ?_;rintro e w' ⟨rfl,rfl⟩)
   all_goals
    generalize hcm:Lib.compareBytes x.data.toList y.data.toList=cm at *
    have HCM:=Zb hcm
    clear hcm
    by_cases h0:cm=0
    ·have h0':(cm != 0)=false:=by simp [h0]
     go_wp2_with fail
     go_roundw
     case rel=>exact ⟨j+1,by omega,by go_num,⟨_,rfl⟩,by have:=HST.out;rw [if_pos h0] at this;rw [← this];exact HAG.out⟩
     case measure=>simp [intOf];omega
    ·have h0':(cm != 0)=true:=by simp [h0]
     go_wp2_with fail
     go_ret
     refine ⟨?_,_,rfl⟩
     have:=HST.out;rw [if_neg h0] at this;rw [← HAG.out,this];rfl
  ·go_wp2_with fail
   refine (Znk _ _ _).mono ?_
   rintro e w' ⟨rfl,rfl⟩
   go_wp2_with fail
   go_ret
   refine ⟨?_,_,rfl⟩
   rw [← HAG.out,Zz6 (by have:=HM.out;omega)];rfl
end
section
open Go.RowKit Go.Shelf
set_option maxHeartbeats 4000000
set_option linter.all false
mutual
def Zm0  : Zk→Zk→Int
 | .mk k b n s ks ts,.mk k' b' n' s' ks' ts' =>
  if Zfw (Zfa k) (Zfa k')=0 then
   (if k=5 then (if agS ks ks'=0 then ordL ts ts' else agS ks ks')
     else if k=4 then ordL ts ts'
     else if k=3 then Lib.compareBytes s.data.toList s'.data.toList
     else if k=1 then Zfw (Zl2 b) (Zl2 b')
     else Zfw n n')
  else Zfw (Zfa k) (Zfa k')
def ordL  : List Zk→List Zk→Int
 | [],[]=>0
 | [],_::_=>-1
 | _::_,[]=>1
 | a::r,b::t=>if Zm0 a b=0 then ordL r t else Zm0 a b
end
theorem Zvg {a b:List Zk} {i:Nat} {x y:Zk} (h1:a[i]?=some x) (h2:b[i]?=some y):ordL (a.drop i) (b.drop i)=(if Zm0 x y=0 then ordL (a.drop (i+1)) (b.drop (i+1)) else Zm0 x y):=by
 obtain ⟨l1,rfl⟩:=List.getElem?_eq_some_iff.1 h1
 obtain ⟨l2,rfl⟩:=List.getElem?_eq_some_iff.1 h2
 rw [List.drop_eq_getElem_cons l1,List.drop_eq_getElem_cons l2,ordL]
theorem Zyh {a b:List Zk} {i:Nat} (h:i=min a.length b.length):ordL (a.drop i) (b.drop i)=Zfw a.length b.length:=by
 unfold Zfw
 by_cases h1:a.length<b.length
 ·rw [if_pos (by omega),List.drop_of_length_le (by omega),List.drop_eq_getElem_cons (by omega:i<b.length),ordL]
 ·rw [if_neg (by omega)]
  by_cases h2:b.length<a.length
  ·rw [if_pos (by omega),List.drop_of_length_le (l:=b) (by omega),List.drop_eq_getElem_cons (by omega:i<a.length),ordL]
  ·rw [if_neg (by omega),List.drop_of_length_le (by omega),List.drop_of_length_le (by omega),ordL]
def Za9 (B:Nat) (w:World) (la:Option Addr) (ts:List Zk):Prop:=ts=[]∨∃ bl off,la=some ⟨bl,off,none⟩∧bl<B∧KidsLie B w bl off ts
theorem Za9.below {B:Nat} {w w':World} {la:Option Addr} {ts:List Zk} (h:Za9 B w la ts) (hb:Below B w w'):Za9 B w' la ts:=by
 rcases h with h | ⟨bl,off,e,hl,hk⟩
 ·exact .inl h
 ·exact .inr ⟨bl,off,e,hl,hk.below hb hl⟩
theorem Zij (a:List Zk) (ih:∀ t ∈ a,∀ (B:Nat) (v v':Value) (T':Zk) (w:World),B≤w.heap.size→Zaw B w v t→Zaw B w v' T'→Calls Tryz.prog 186 #[v,v'] w fun e w'=>e=.returned (.int .i64 (Zm0 t T'))∧Below w.heap.size w w'∧w.drawn≤w'.drawn)
  (B:Nat) (la lb:Option Addr) (ca cb:Nat) (b:List Zk) (w:World) (hB:B≤w.heap.size) (ha:Za9 B w la a) (hb:Za9 B w lb b) (h1:a.length≤ca) (h2:ca≤maxLen) (h3:b.length≤cb) (h4:cb≤maxLen) :
  Calls Tryz.prog 224 #[.slice la a.length ca,.slice lb b.length cb,.func (.func 186) #[] #[]] w fun e w'=>e=.returned (.int .i64 (ordL a b))∧Below w.heap.size w w'∧w.drawn≤w'.drawn:=by
 unfold maxLen at h2 h4
 have HN:Hid (min (a.length:Int) (b.length:Int)=((min a.length b.length:Nat):Int)):=by show _=_;omega
 go_enter Tryz.func224,Tryz.ntmps224
 go_wp2_with fail
 rw [HN.out]
 generalize hm:min a.length b.length=m at *
 have hma:m≤a.length:=by omega
 have hmb:m≤b.length:=by omega
 have HM:Hid (m=min a.length b.length):=hm.symm
 clear hm
 go_loopw [14] (fun i wr=>∃ j:Nat,j≤m∧i=.int .i64 j∧Below w.heap.size w wr∧w.drawn≤wr.drawn∧ordL (a.drop j) (b.drop j)=ordL a b) (fun i _=>m - (intOf i).toNat)
 case atStart=>exact ⟨0,Nat.zero_le _,rfl,Below.refl _ _,Nat.le_refl _,rfl⟩
 case round =>
  obtain ⟨j,hj,rfl,hbr,hdr,hag⟩:=hrel
  have HDR:=Zb hdr
  clear hdr
  have HAG:Hid (ordL (a.drop j) (b.drop j)=ordL a b):=hag
  clear hag
  by_cases hlt:j<m
  ·obtain ⟨bl,off,rfl,hbl,hk⟩:=ha.resolve_left (by intro e;subst e;simp at hma;omega)
   obtain ⟨bl',off',rfl,hbl',hk'⟩:=hb.resolve_left (by intro e;subst e;simp at hmb;omega)
   have hja:j<a.length:=by omega
   have hjb:j<b.length:=by omega
   obtain ⟨⟨k,x,n,s,ks,ts⟩,hx⟩:∃ t,a[j]?=some t:=⟨_,List.getElem?_eq_getElem hja⟩
   obtain ⟨⟨k',x',n',s',ks',ts'⟩,hy⟩:∃ t,b[j]?=some t:=⟨_,List.getElem?_eq_getElem hjb⟩
   have HST:=Zb (Zvg hx hy)
   have hkr:=hk.below (hbr.mono hB) hbl
   have hkr':=hk'.below (hbr.mono hB) hbl'
   obtain ⟨ka,kc,la,lc,⟨c0,c1,c2,c3,c4,c5⟩,hl⟩:=hkr.cells hx
   obtain ⟨ka',kc',la',lc',⟨d0,d1,d2,d3,d4,d5⟩,hl'⟩:=hkr'.cells hy
   have HIH:=Zb (ih _ (List.mem_of_getElem? hx))
   clear hx hy hk hk' hkr hkr'
   have hL:=Zb hl
   have hL':=Zb hl'
   clear hl hl'
   have hBr:B≤wr.heap.size:=Nat.le_trans hB hbr.size
   go_wp2_with fail
   have HC:=Zb (HIH.out B _ _ _ wr.drew (show B≤wr.drew.heap.size from hBr) (hL.out.below (Below.refl B wr).drew) (hL'.out.below (Below.refl B wr).drew))
   go_region_with (go_at_call 186;refine HC.out.mono ?_;rintro e w' ⟨rfl,hk2,hd2⟩)
   all_goals
    have HB2:Hid (Below w.heap.size w w'):=hbr.drew.trans (hk2.mono hbr.size)
    have HD2:Hid (w.drawn≤w'.drawn):=Nat.le_trans HDR.out (Nat.le_trans (Nat.le_succ _) hd2)
    clear hd2
    generalize hcm:Zm0 (.mk k x n s ks ts) (.mk k' x' n' s' ks' ts')=cm at *
    have HCM:=Zb hcm
    clear hcm hk2 c0 c1 c2 c3 c4 c5 d0 d1 d2 d3 d4 d5
    by_cases h0:cm=0
    ·have h0':(cm != 0)=false:=by simp [h0]
     go_wp2_with fail
     go_roundw
     case rel=>exact ⟨j+1,by omega,by go_num,HB2.out,HD2.out,by have:=HST.out;rw [if_pos h0] at this;rw [← this];exact HAG.out⟩
     case measure=>simp [intOf];omega
    ·have h0':(cm != 0)=true:=by simp [h0]
     go_wp2_with fail
     go_ret
     refine ⟨?_,HB2.out,HD2.out⟩
     have:=HST.out;rw [if_neg h0] at this;rw [← HAG.out,this];rfl
  ·go_wp2_with fail
   refine (Znk _ _ _).mono ?_
   rintro e w' ⟨rfl,rfl⟩
   go_wp2_with fail
   go_ret
   refine ⟨?_,hbr,HDR.out⟩
   rw [← HAG.out,Zyh (by have:=HM.out;omega)];rfl
theorem Zf4 {w w1:World} {A A':Array Value} (hb:Below ((w.alloc (.cells A 60)).alloc (.cells A' 60)).heap.size ((w.alloc (.cells A 60)).alloc (.cells A' 60)) w1) :
  Below w.heap.size w w1∧(∀ i v,A[i]?=some v→w1.cell? ⟨w.heap.size,i,none⟩=some v)∧(∀ i v,A'[i]?=some v→w1.cell? ⟨w.heap.size+1,i,none⟩=some v):=by
 simp only [World.size_alloc] at hb
 refine ⟨(((Below.refl _ w).alloc (Nat.le_refl _) _).alloc (by simp) _).trans (hb.mono (by omega)),fun i v hi=>?_,fun i v hi=>?_⟩
 ·rw [hb.cell (p:=⟨w.heap.size,i,none⟩) (by show w.heap.size<_;omega),World.cell?_of_block (Below.heap_alloc _ _ _ (by simp))]
  exact Zaf _ _ _ _ _ hi
 ·rw [hb.cell (p:=⟨w.heap.size+1,i,none⟩) (by show w.heap.size+1<_;omega)]
  have:=Zaf (w.alloc (.cells A 60)) A' 60 i v hi
  rwa [World.size_alloc] at this
theorem Zre  : ∀ (T:Zk) (B:Nat) (v v':Value) (T':Zk) (w:World),B≤w.heap.size→Zaw B w v T→Zaw B w v' T' →
  Calls Tryz.prog 186 #[v,v'] w fun e w'=>e=.returned (.int .i64 (Zm0 T T'))∧Below w.heap.size w w'∧w.drawn≤w'.drawn:=by
 refine Zk.ind ?_
 intro k x n s ks ts ih B v v' T' w hB hv hv'
 obtain ⟨k',x',n',s',ks',ts'⟩:=T'
 simp only [Zaw] at hv hv'
 obtain ⟨ka,kc,la,lc,rfl,⟨hs1,hs2,hs3,hs4,hs5⟩,hk,ht⟩:=hv
 obtain ⟨ka',kc',la',lc',rfl,⟨gs1,gs2,gs3,gs4,gs5⟩,hk',ht'⟩:=hv'
 have ht0:Za9 B w la ts:=ht
 have ht0':Za9 B w la' ts':=ht'
 have HAV:=Zb (Zij ts ih)
 clear ih ht ht'
 have hord:Zm0 (.mk k x n s ks ts) (.mk k' x' n' s' ks' ts')=(if Zfw (Zfa k) (Zfa k')=0 then
   (if k=5 then (if agS ks ks'=0 then ordL ts ts' else agS ks ks') else if k=4 then ordL ts ts' else if k=3 then Lib.compareBytes s.data.toList s'.data.toList else if k=1 then Zfw (Zl2 x) (Zl2 x') else Zfw n n')
  else Zfw (Zfa k) (Zfa k')):=by rw [Zm0]
 have HO:=Zb hord
 clear hord
 generalize Zm0 (.mk k x n s ks ts) (.mk k' x' n' s' ks' ts')=res at *
 have hW2:Below w.heap.size w ((w.alloc (.cells #[.int .i64 k,.bool x,.int .i64 n,.string s,.slice ka ks.length kc,.slice la ts.length lc] 60)).alloc (.cells #[.int .i64 k',.bool x',.int .i64 n',.string s',.slice ka' ks'.length kc',.slice la' ts'.length lc'] 60)):=((Below.refl _ w).alloc (Nat.le_refl _) _).alloc (by simp) _
 have HW2:=Zb hW2
 clear hW2
 go_enter Tryz.func186,Tryz.ntmps186
 go_wp2_with fail
 go_quiet (first | (go_at_call 222;exact Calls.quiet_of_same (Zw6 _ _)) | (go_at_call 221;exact Calls.quiet_of_same (Znk _ _ _)))
 generalize hcr:Zfw (Zfa k) (Zfa k')=cr at *
 have HCR:=Zb hcr
 clear hcr
 generalize hW3:World.drewN _ nq=W3
 have hb3:=Zf4 (w:=w) (w1:=W3) (A:=#[.int .i64 k,.bool x,.int .i64 n,.string s,.slice ka ks.length kc,.slice la ts.length lc]) (A':=#[.int .i64 k',.bool x',.int .i64 n',.string s',.slice ka' ks'.length kc',.slice la' ts'.length lc']) (by rw [← hW3];exact below_drewN (Below.refl _ _) _)
 have HD3:Hid (w.drawn≤W3.drawn):=by rw [← hW3];exact Nat.le_add_right _ _
 clear hW3 HW2
 obtain ⟨hB3,hA3,hA3'⟩:=hb3
 have q0:=hA3 0 _ rfl
 have q1:=hA3 1 _ rfl
 have q2:=hA3 2 _ rfl
 have q3:=hA3 3 _ rfl
 have q4:=hA3 4 _ rfl
 have q5:=hA3 5 _ rfl
 have r1:=hA3' 1 _ rfl
 have r2:=hA3' 2 _ rfl
 have r3:=hA3' 3 _ rfl
 have r4:=hA3' 4 _ rfl
 have r5:=hA3' 5 _ rfl
 clear hA3 hA3'
 have hBs:=hB3.size
 by_cases c0:cr=0
 ·have c0':(cr != 0)=false:=by simp [c0]
  have HO1:=Zb (HO.out.trans (if_pos c0))
  clear HO c0
  by_cases k5:k=5
  ·have e5:=Jy k5
   have HO2:=Zb (HO1.out.trans (if_pos k5))
   clear HO1 k5
   go_wp2_with fail
   refine (Zkj B ka ka' kc kc' ks ks' W3 (hk.below (hB3.mono hB)) (hk'.below (hB3.mono hB)) hs2 hs3 gs2 gs3).mono ?_
   rintro e w4 ⟨rfl,q,rfl⟩
   generalize hag:agS ks ks'=ag at *
   have HAG:=Zb hag
   clear hag
   by_cases a0:ag=0
   ·have a0':(ag != 0)=false:=by simp [a0]
    have HO3:=Zb (HO2.out.trans (if_pos a0))
    clear HO2 a0
    have hb4:Below w.heap.size w (W3.drewN q):=below_drewN hB3 _
    go_wp2_with fail
    refine (HAV.out B la la' lc lc' ts' (W3.drewN q) (Nat.le_trans hB hBs) (ht0.below (hb4.mono hB)) (ht0'.below (hb4.mono hB)) hs4 hs5 gs4 gs5).mono ?_
    rintro e w5 ⟨rfl,hb5,hd5⟩
    have hfin:=Za hb4 hb5
    have HF:Hid (w.drawn≤w5.drawn):=Nat.le_trans HD3.out (Nat.le_trans (Nat.le_add_right _ _) hd5)
    clear hd5
    clear hb5 hb4 q0 q1 q2 q3 q4 q5 r1 r2 r3 r4 r5
    go_wp2_with fail
    go_ret
    exact ⟨by rw [HO3.out];rfl,hfin,HF.out⟩
   ·have a0':(ag != 0)=true:=by simp [a0]
    have HO3:=Zb (HO2.out.trans (if_neg a0))
    clear HO2 a0
    go_wp2_with fail
    go_ret
    exact ⟨by rw [HO3.out];rfl,below_drewN hB3 _,Nat.le_trans HD3.out (Nat.le_add_right _ _)⟩
  ·have e5:=Zh k5
   have HO2:=Zb (HO1.out.trans (if_neg k5))
   clear HO1 k5
   by_cases k4:k=4
   ·have e4:=Jy k4
    have HO3:=Zb (HO2.out.trans (if_pos k4))
    clear HO2 k4
    go_wp2_with fail
    refine (HAV.out B la la' lc lc' ts' W3 (Nat.le_trans hB hBs) (ht0.below (hB3.mono hB)) (ht0'.below (hB3.mono hB)) hs4 hs5 gs4 gs5).mono ?_
    rintro e w5 ⟨rfl,hb5,hd5⟩
    have hfin:=Za hB3 hb5
    have HF:Hid (w.drawn≤w5.drawn):=Nat.le_trans HD3.out hd5
    clear hd5
    clear hb5 hB3 q0 q1 q2 q3 q4 q5 r1 r2 r3 r4 r5
    go_wp2_with fail
    go_ret
    exact ⟨by rw [HO3.out];rfl,hfin,HF.out⟩
   ·have e4:=Zh k4
    have HO3:=Zb (HO2.out.trans (if_neg k4))
    clear HO2 k4
    by_cases k3:k=3
    ·have e3:=Jy k3
     have HO4:=Zb (HO3.out.trans (if_pos k3))
     clear HO3 k3
     go_wp2_with fail
     refine (Tryz.strings_Compare _ _ _).mono ?_
     rintro e w5 ⟨rfl,rfl⟩
     go_wp2_with fail
     go_ret
     exact ⟨by rw [HO4.out];rfl,hB3,HD3.out⟩
    ·have e3:=Zh k3
     have HO4:=Zb (HO3.out.trans (if_neg k3))
     clear HO3 k3
     by_cases k1:k=1
     ·have e1:=Jy k1
      have HO5:=Zb (HO4.out.trans (if_pos k1))
      clear HO4 k1
      go_wp2_with fail
      go_quiet (first | (go_at_call 226;exact Calls.quiet_of_same (Zt0 _ _)) | (go_at_call 225;exact Calls.quiet_of_same (Zty _ _ _)))
      go_wp2_with fail
      go_ret
      exact ⟨by rw [HO5.out];rfl,below_drewN hB3 _,Nat.le_trans HD3.out (Nat.le_add_right _ _)⟩
     ·have e1:=Zh k1
      have HO5:=Zb (HO4.out.trans (if_neg k1))
      clear HO4 k1
      go_wp2_with fail
      refine (Ztz _ _ _).mono ?_
      rintro e w5 ⟨rfl,rfl⟩
      go_wp2_with fail
      go_ret
      exact ⟨by rw [HO5.out];rfl,hB3,HD3.out⟩
 ·have c0':(cr != 0)=true:=by simp [c0]
  have HO1:=Zb (HO.out.trans (if_neg c0))
  clear HO c0
  go_wp2_with fail
  go_ret
  exact ⟨by rw [HO1.out];rfl,hB3,HD3.out⟩
theorem Zvh (T:Zk) (B:Nat) (v v':Value) (T':Zk) (w:World) (hB:B≤w.heap.size) (h:Zaw B w v T) (h':Zaw B w v' T') :
  Calls Tryz.prog 186 #[v,v'] w fun e w'=>e=.returned (.int .i64 (Zm0 T T'))∧Below w.heap.size w w':=(Zre T B v v' T' w hB h h').mono fun _ _ ⟨h1,h2,_⟩=>⟨h1,h2⟩
end
section
open Go.RowKit Go.Shelf
set_option maxHeartbeats 1000000
set_option maxRecDepth 100000
set_option linter.all false
theorem Zz0  : ∃ ms,Tryz.prog.underlying 20=some (.interface ms):=⟨_,Tryz.underlying20⟩
theorem Jbz  : (Tryz.prog.info? 28).map (·.comparable)=some true:=by kernel_rfl
theorem Zz1 (w:World):(binOp .eql 20 (.iface 28 (.int .i64 3)) (.iface 28 (.int .i64 3))).run Tryz.prog w=.ok (.bool true) w:=by
 obtain ⟨ms,h20⟩:=Zz0
 have h41:∃ i,Tryz.prog.info? 28=some i∧i.comparable=true:=by
  have:=Jbz
  cases h:Tryz.prog.info? 28 with
  | none=>rw [h] at this;cases this
  | some i=>rw [h] at this;exact ⟨i,rfl,by simpa using this⟩
 obtain ⟨i,hi,hc⟩:=h41
 have h:∀ d:Nat,(Op.equalIn (d+2) 20 (.iface 28 (.int .i64 3)) (.iface 28 (.int .i64 3))).run Tryz.prog w=.ok true w:=fun d=>by
  simp [Op.equalIn,run_underlying h20,run_underlying Tryz.underlying28,typeInfo,hi,hc]
 simp only [binOp]
 simp [Op.equal,Op.maxDepth,h 9998]
theorem Zqu (n:Nat) (p:Addr) (z:Int) (w:World) (hc:w.cell? p=some (.int .i64 z)) (hz:w.frozen? p=false) :
  CallsDIn Fence.wide n Tryz.prog 206 #[.pointer (some p)] (.panicking [{ v:=.iface 28 (.int .i64 3),recovered:=false }]) w fun e u' w' =>
   e=.returned (.tuple #[])∧u'=.panicking [{ v:=.iface 28 (.int .i64 3),recovered:=true }]∧w'=w.setCell p (.int .i64 3):=by
 have he:=Zz1 w
 refine callsDIn_of_wpSIn Tryz.func206 rfl trivial fun c₀ cs hu=>?_
 apply wpSIn_seq
 apply wpSIn_region
 simp [wpOpsSIn,go_sem,recoverD,hu,Tryz.ntmps206,Exit.thenS,Oper.about,Fence.wide,Array.replicate_succ]
 refine wpSIn_of_wpIn rfl ?_
 gi_wp2
 exact ⟨rfl,_,rfl,_,(by simp [results,Tryz.results206]),rfl,rfl,rfl⟩
theorem Zqv (n:Nat) (p:Addr) (w:World) :
  CallsDIn Fence.wide n Tryz.prog 206 #[.pointer (some p)] .returning w fun e u' w'=>e=.returned (.tuple #[])∧u'=.returning∧w'=w:=by
 have he:=run_eql_iface_nil_left (P:=Tryz.prog) w 28 (.int .i64 3) Tryz.underlying20
 have hne:=run_neq_nil_nil (P:=Tryz.prog) w 20 (by kernel_rfl)
 refine callsDIn_of_wpSIn Tryz.func206 rfl trivial fun c₀ cs hu=>?_
 apply wpSIn_seq
 apply wpSIn_region
 simp [wpOpsSIn,go_sem,recoverD,hu,Tryz.ntmps206,Exit.thenS,Oper.about,Fence.wide,Array.replicate_succ]
 refine wpSIn_of_wpIn rfl ?_
 gi_wp2
 cases c₀
 simp only at hu
 subst hu
 exact ⟨rfl,_,rfl,_,(by simp [results,Tryz.results206]),rfl,rfl,rfl⟩
end
