import Derived.Test.YteddjlbfbpecjaaGreatDoorShape
import Derived.RecoverIn
import Derived.LaidEql
import Derived.WideLaws
namespace Go.Proofs.YteddjlbfbpecjaaGreatDoor
set_option maxHeartbeats 4000000
set_option maxRecDepth 100000
set_option linter.all false
section
open Go.RowKit Go.Shelf
theorem Zab.below {B:Nat} {w w':World} {ka:Option Addr} {ks:List ByteArray} (D:Zab B w ka ks) (h:Below B w w'):Zab B w' ka ks:=by
 rcases D with D | ⟨P,off,e,C,N⟩
 ·exact .inl D
 ·exact .inr ⟨P,off,e,C,fun i Q=>⟨(h.cell (p:=⟨P,off+i,none⟩) C).trans (N i Q).1,(N i Q).2⟩⟩
theorem Zt1 {w w1:World} {A:Array Value} {v0 v1 v2 v3 v4 v5:Value} (M:Below ((w.alloc (.cells A 60)).alloc (.cells #[v0,v1,v2,v3,v4,v5] 60)).heap.size ((w.alloc (.cells A 60)).alloc (.cells #[v0,v1,v2,v3,v4,v5] 60)) w1) :
  w1.cell? ⟨w.heap.size+1,0,none⟩=some v0/\w1.cell? ⟨w.heap.size+1,1,none⟩=some v1/\w1.cell? ⟨w.heap.size+1,2,none⟩=some v2/\w1.cell? ⟨w.heap.size+1,3,none⟩=some v3 /\
  w1.cell? ⟨w.heap.size+1,4,none⟩=some v4/\w1.cell? ⟨w.heap.size+1,5,none⟩=some v5/\w1.frozen? ⟨w.heap.size+1,4,none⟩=false/\w1.frozen? ⟨w.heap.size+1,5,none⟩=false/\w.heap.size+2<=w1.heap.size:=by
 have e:w1.heap[w.heap.size+1]?=some (.cells #[v0,v1,v2,v3,v4,v5] 60 (0,0)):=by
  rw [M.block _ (by simp)]
  have:=World.alloc_heap_new (w.alloc (.cells A 60)) (.cells #[v0,v1,v2,v3,v4,v5] 60)
  rwa [World.size_alloc] at this
 have H:=M.size
 simp only [World.size_alloc] at H
 refine ⟨?_,?_,?_,?_,?_,?_,?_,?_,H⟩<;>first | (unfold World.cell?;simp only [e];rfl) | (unfold World.frozen?;simp only [e];rfl)
theorem Jbj (B:Nat) (k:Int) (b:Bool) (n:Int) (s:ByteArray) (ka:Option Addr) (kc:Nat) (la:Option Addr) (lc:Nat) (ks:List ByteArray) (ts:List Zi) (w:World) (d:s.size<=maxLen) (r:ks.length<=kc) (t:kc<=maxLen) (G:B<=w.heap.size) (K:Zab B w ka ks) (j:Zhx w) (q:k=5) :
  Calls Tryz.prog 205 #[.agg #[.int .i64 k,.bool b,.int .i64 n,.string s,.slice ka ks.length kc,.slice la ts.length lc]] w fun e w'=>e=.returned (.bool (Zw (.mk k b n s ks ts)))/\Below w.heap.size w w':=by
 have c:Zw (.mk k b n s ks ts)=(((ks.length==ts.length&&Zbz ks)&&Zav b n s 0 0)&&Lib.validD s.data.toList):=by subst q;rfl
 have Y:(k==0)=false:=Zh (by omega)
 have e1:(k==1)=false:=Zh (by omega)
 have e2:(k==2)=false:=Zh (by omega)
 have V:(k==6)=false:=Zh (by omega)
 have S:(k==7)=false:=Zh (by omega)
 have e3:(k==3)=false:=Zh (by omega)
 have e5:(k==5)=true:=Zah q
 clear q
 by_cases hl:ks.length=ts.length
 ·have hn:((ks.length:Int) != (ts.length:Int))=false:=by rw [hl];simp
  have g:(ks.length==ts.length)=true:=beq_iff_eq.2 hl
  rw [g,Bool.true_and] at c
  have HL:Hid (ks.length=ts.length):=hl
  clear hl g
  go_enter Tryz.func205,Tryz.ntmps205
  go_wp2_with fail
  refine (Ztp B ka kc ks _ (K.below (by exact ((Below.refl _ w).alloc G _).alloc (by simp;omega) _)) r t (j.below (by exact ((Below.refl _ w).alloc (Nat.le_refl _) _).alloc (by simp) _))).mono ?_
  rintro e w1 ⟨rfl,f⟩
  have E:Below w.heap.size w w1:=(Zb0 (v:=.string s) f rfl).1
  cases hr:Zbz ks with
  | false =>
   have m:Hid (Zw (.mk k b n s ks ts)=false):=by unfold Hid;rw [c,hr];rfl
   clear hr c f
   go_wp2_with fail
   go_ret
   exact ⟨by rw [m.out];rfl,E⟩
  | true =>
   rw [hr,Bool.true_and] at c
   obtain ⟨c0,c1,c2,c3,c4,c5,f4,X,H⟩:=Zt1 f
   have cs:w1.cell? ⟨w.heap.size,3,none⟩=some (.string s):=(Zb0 (v:=.string s) f rfl).2
   clear hr f
   go_wp2_with fail
   refine (Zcl _ _ _ _ _ _ _ _ _ _ _).mono ?_
   rintro e O ⟨rfl,o⟩
   have l:Below w.heap.size w O:=((E.setCell (p:=⟨w.heap.size+1,4,none⟩) (by show _<=w.heap.size+1;omega) _).setCell (p:=⟨w.heap.size+1,5,none⟩) (by show _<=w.heap.size+1;omega) _).trans (o.mono (by simp [World.setCell];omega))
   have U:O.cell? ⟨w.heap.size,3,none⟩=some (.string s):=by
    rw [o.cell (p:=⟨w.heap.size,3,none⟩) (by simp [World.setCell];omega)]
    rw [World.cell?_of_block (Below.heap_setCell _ _ _ _ (by show w.heap.size≠w.heap.size+1;omega)),World.cell?_of_block (Below.heap_setCell _ _ _ _ (by show w.heap.size≠w.heap.size+1;omega))]
    exact cs
   clear o c0 c1 c2 c3 c4 c5 f4 X cs
   have F:=j.below l
   cases hbl:Zav b n s 0 0 with
   | false =>
    have m:Hid (Zw (.mk k b n s ks ts)=false):=by unfold Hid;rw [c,hbl];rfl
    clear hbl c
    go_wp2_with fail
    go_ret
    exact ⟨by rw [m.out];rfl,l⟩
   | true =>
    have m:Hid (Zw (.mk k b n s ks ts)=Lib.validD s.data.toList):=by unfold Hid;rw [c,hbl];rfl
    clear hbl c
    go_wp2_with fail
    refine (Zbh _ _ d F).mono ?_
    rintro e w3 ⟨rfl,I⟩
    go_wp2_with fail
    go_ret
    exact ⟨by rw [m.out];rfl,l.trans (I.mono l.size)⟩
 ·have hn:((ks.length:Int) != (ts.length:Int))=true:=by rw [bne_iff_ne];omega
  have g:(ks.length==ts.length)=false:=beq_eq_false_iff_ne.2 hl
  have m:Hid (Zw (.mk k b n s ks ts)=false):=by unfold Hid;rw [c,g];rfl
  clear hl g c
  go_enter Tryz.func205,Tryz.ntmps205
  go_wp2_with fail
  go_ret
  exact ⟨by rw [m.out];rfl,((Below.refl _ w).alloc (Nat.le_refl _) _).alloc (by simp) _⟩
theorem Zp6 (k:Int) (b:Bool) (n:Int) (s:ByteArray) (ka:Option Addr) (kc:Nat) (la:Option Addr) (lc:Nat) (ks:List ByteArray) (ts:List Zi) (w:World)
  (h0:k≠0) (h1:k≠1) (h2:k≠2) (h3:k≠3) (u:k≠4) (y:k≠5) (x:k≠6) (z:k≠7) :
  Calls Tryz.prog 205 #[.agg #[.int .i64 k,.bool b,.int .i64 n,.string s,.slice ka ks.length kc,.slice la ts.length lc]] w fun e w'=>e=.returned (.bool (Zw (.mk k b n s ks ts)))/\Below w.heap.size w w':=by
 have m:Hid (Zw (.mk k b n s ks ts)=false):=by
  unfold Hid
  simp [Zw,h0,h1,h2,h3,u,y,x,z]
 have Y:=Zh h0
 have e1:=Zh h1
 have e2:=Zh h2
 have e3:=Zh h3
 have e4:=Zh u
 have e5:=Zh y
 have V:=Zh x
 have S:=Zh z
 clear h0 h1 h2 h3 u y x z
 go_enter Tryz.func205,Tryz.ntmps205
 go_wp2_with fail
 go_ret
 exact ⟨by rw [m.out];rfl,((Below.refl _ w).alloc (Nat.le_refl _) _).alloc (by simp) _⟩
theorem Zt2 (B:Nat) (v:Value) (T:Zi) (w:World) (G:B<=w.heap.size) (L:Zaw B w v T) (j:Zhx w) :
  Calls Tryz.prog 205 #[v] w fun e w'=>e=.returned (.bool (Zw T))/\Below w.heap.size w w':=by
 obtain ⟨k,b,n,s,ks,ts⟩:=T
 simp only [Zaw] at L
 obtain ⟨ka,kc,la,lc,rfl,⟨d,r,t,R,W⟩,D,ht⟩:=L
 by_cases h0:k=0
 ·exact Jah _ _ _ _ _ _ _ _ _ _ _ d j h0
 by_cases h1:k=1
 ·exact Jai _ _ _ _ _ _ _ _ _ _ _ d j h1
 by_cases h2:k=2
 ·exact Jaj _ _ _ _ _ _ _ _ _ _ _ d j h2
 by_cases h3:k=3
 ·exact Jam _ _ _ _ _ _ _ _ _ _ _ d j h3
 by_cases u:k=4
 ·exact Jan _ _ _ _ _ _ _ _ _ _ _ d j u
 by_cases y:k=5
 ·exact Jbj B _ _ _ _ _ _ _ _ _ _ _ d r t G D j y
 by_cases x:k=6
 ·exact Jak _ _ _ _ _ _ _ _ _ _ _ d j x
 by_cases z:k=7
 ·exact Jal _ _ _ _ _ _ _ _ _ _ _ d j z
 exact Zp6 _ _ _ _ _ _ _ _ _ _ _ h0 h1 h2 h3 u y x z
end
section
open Go.RowKit Go.Shelf
def Zcs (a b:Int):Int:=if a<b then -1 else if b<a then 1 else 0
theorem Zpj (a b:Int) (w:World):Calls Tryz.prog 221 #[.int .i64 a,.int .i64 b] w fun e w'=>e=.returned (.int .i64 (Zcs a b))/\w'=w:=by
 unfold Zcs
 by_cases h1:a<b
 ·rw [if_pos h1]
  go_enter Tryz.func221,Tryz.ntmps221
  go_wp2
  go_ret
  exact ⟨rfl,rfl⟩
 ·rw [if_neg h1]
  by_cases h2:b<a
  ·rw [if_pos h2]
   go_enter Tryz.func221,Tryz.ntmps221
   go_wp2
   go_ret
   exact ⟨rfl,rfl⟩
  ·rw [if_neg h2]
   go_enter Tryz.func221,Tryz.ntmps221
   go_wp2
   go_ret
   exact ⟨rfl,rfl⟩
theorem Zwl (a b:Int) (w:World):Calls Tryz.prog 225 #[.int .i64 a,.int .i64 b] w fun e w'=>e=.returned (.int .i64 (Zcs a b))/\w'=w:=by
 unfold Zcs
 by_cases h1:a<b
 ·rw [if_pos h1]
  go_enter Tryz.func225,Tryz.ntmps225
  go_wp2
  go_ret
  exact ⟨rfl,rfl⟩
 ·rw [if_neg h1]
  by_cases h2:b<a
  ·rw [if_pos h2]
   go_enter Tryz.func225,Tryz.ntmps225
   go_wp2
   go_ret
   exact ⟨rfl,rfl⟩
  ·rw [if_neg h2]
   go_enter Tryz.func225,Tryz.ntmps225
   go_wp2
   go_ret
   exact ⟨rfl,rfl⟩
theorem Zwm (a b:Int) (w:World):Calls Tryz.prog 227 #[.int .i64 a,.int .i64 b] w fun e w'=>e=.returned (.int .i64 (Zcs a b))/\w'=w:=by
 unfold Zcs
 by_cases h1:a<b
 ·rw [if_pos h1]
  go_enter Tryz.func227,Tryz.ntmps227
  go_wp2
  go_ret
  exact ⟨rfl,rfl⟩
 ·rw [if_neg h1]
  by_cases h2:b<a
  ·rw [if_pos h2]
   go_enter Tryz.func227,Tryz.ntmps227
   go_wp2
   go_ret
   exact ⟨rfl,rfl⟩
  ·rw [if_neg h2]
   go_enter Tryz.func227,Tryz.ntmps227
   go_wp2
   go_ret
   exact ⟨rfl,rfl⟩
def Ziy (b:Bool):Int:=if b then 2 else 0
theorem Zwn (b:Bool) (w:World):Calls Tryz.prog 226 #[.bool b] w fun e w'=>e=.returned (.int .i64 (Ziy b))/\w'=w:=by
 cases b
 all_goals
  go_enter Tryz.func226,Tryz.ntmps226
  go_wp2
  go_ret
  exact ⟨rfl,rfl⟩
def Zb7 (k:Int):Int:=if k=0 then 7 else if k=2 then 6 else if k=1 then 5 else if k=3 then 4 else if k=4 then 3 else if k=7 then 2 else if k=6 then 1 else 0
theorem Zz0 (k:Int) (w:World):Calls Tryz.prog 222 #[.int .i64 k] w fun e w'=>e=.returned (.int .i64 (Zb7 k))/\w'=w:=by
 by_cases h0:k=0
 ·subst h0;go_enter Tryz.func222,Tryz.ntmps222;go_wp2;go_ret;exact ⟨rfl,rfl⟩
 by_cases h2:k=2
 ·subst h2;go_enter Tryz.func222,Tryz.ntmps222;go_wp2;go_ret;exact ⟨rfl,rfl⟩
 by_cases h1:k=1
 ·subst h1;go_enter Tryz.func222,Tryz.ntmps222;go_wp2;go_ret;exact ⟨rfl,rfl⟩
 by_cases h3:k=3
 ·subst h3;go_enter Tryz.func222,Tryz.ntmps222;go_wp2;go_ret;exact ⟨rfl,rfl⟩
 by_cases g:k=4
 ·subst g;go_enter Tryz.func222,Tryz.ntmps222;go_wp2;go_ret;exact ⟨rfl,rfl⟩
 by_cases h7:k=7
 ·subst h7;go_enter Tryz.func222,Tryz.ntmps222;go_wp2;go_ret;exact ⟨rfl,rfl⟩
 by_cases h6:k=6
 ·subst h6;go_enter Tryz.func222,Tryz.ntmps222;go_wp2;go_ret;exact ⟨rfl,rfl⟩
 have D:Zb7 k=0:=by simp [Zb7,h0,h2,h1,h3,g,h7,h6]
 have T:=Zh h0
 have e1:=Zh h1
 have e2:=Zh h2
 have e3:=Zh h3
 have Y:=Zh g
 have X:=Zh h6
 have V:=Zh h7
 rw [D]
 clear D h0 h1 h2 h3 g h6 h7
 go_enter Tryz.func222,Tryz.ntmps222
 go_wp2
 go_ret
 exact ⟨rfl,rfl⟩
def agS  : List ByteArray->List ByteArray->Int
 | [],[]=>0
 | [],_::_=>-1
 | _::_,[]=>1
 | a::r,b::t=>if Lib.compareBytes a.data.toList b.data.toList=0 then agS r t else Lib.compareBytes a.data.toList b.data.toList
theorem Zz1 {a b:List ByteArray}:∀ {i:Nat},i<a.length->i<b.length->agS (a.drop i) (b.drop i) =
  (if Lib.compareBytes (a.getD i ⟨#[]⟩).data.toList (b.getD i ⟨#[]⟩).data.toList=0 then agS (a.drop (i+1)) (b.drop (i+1)) else Lib.compareBytes (a.getD i ⟨#[]⟩).data.toList (b.getD i ⟨#[]⟩).data.toList):=by
 intro i h1 h2
 rw [List.drop_eq_getElem_cons h1,List.drop_eq_getElem_cons h2,agS]
 simp [List.getD,h1,h2]
theorem Jcz {a b:List ByteArray} {i:Nat} (h:i=min a.length b.length):agS (a.drop i) (b.drop i)=Zcs a.length b.length:=by
 unfold Zcs
 by_cases h1:a.length<b.length
 ·rw [if_pos (by omega),List.drop_of_length_le (by omega),List.drop_eq_getElem_cons (by omega:i<b.length)];rfl
 ·rw [if_neg (by omega)]
  by_cases h2:b.length<a.length
  ·rw [if_pos (by omega),List.drop_of_length_le (l:=b) (by omega),List.drop_eq_getElem_cons (by omega:i<a.length)];rfl
  ·rw [if_neg (by omega),List.drop_of_length_le (by omega),List.drop_of_length_le (by omega)];rfl
theorem Zlz (B:Nat) (ka kb:Option Addr) (v u:Nat) (a b:List ByteArray) (w:World) (H:Zab B w ka a) (L:Zab B w kb b) (h1:a.length<=v) (h2:v<=maxLen) (h3:b.length<=u) (g:u<=maxLen) :
  Calls Tryz.prog 223 #[.slice ka a.length v,.slice kb b.length u,.func (.func 135) #[] #[]] w fun e w'=>e=.returned (.int .i64 (agS a b))/\∃ q,w'=w.drewN q:=by
 unfold maxLen at h2 g
 have M:Hid (min (a.length:Int) (b.length:Int)=((min a.length b.length:Nat):Int)):=by show _=_;omega
 go_enter Tryz.func223,Tryz.ntmps223
 go_wp2_with fail
 rw [M.out]
 generalize E:min a.length b.length=m at *
 have C:m<=a.length:=by omega
 have A:m<=b.length:=by omega
 have R:Hid (m=min a.length b.length):=E.symm
 clear E
 go_loopw [14] (fun i wr=>∃ j:Nat,j<=m/\i=.int .i64 j/\(∃ q,wr=w.drewN q)/\agS (a.drop j) (b.drop j)=agS a b) (fun i _=>m - (intOf i).toNat)
 case atStart=>exact ⟨0,Nat.zero_le _,rfl,⟨0,rfl⟩,rfl⟩
 case round =>
  obtain ⟨j,W,rfl,⟨q,s⟩,o⟩:=hrel
  subst s
  have f:Hid (agS (a.drop j) (b.drop j)=agS a b):=o
  clear o
  by_cases hlt:j<m
  ·obtain ⟨S,off,rfl,O,d⟩:=H.resolve_left (by intro e;subst e;simp at C;omega)
   obtain ⟨K,F,rfl,G,c⟩:=L.resolve_left (by intro e;subst e;simp at A;omega)
   have U:=(d j (by omega)).1
   have P:=(c j (by omega)).1
   have p:=Zb (Zz1 (a:=a) (b:=b) (i:=j) (by omega) (by omega))
   generalize a.getD j ⟨#[]⟩=x at *
   generalize b.getD j ⟨#[]⟩=y at *
   clear d c
   have N:j<a.length:=by omega
   have I:j<b.length:=by omega
   go_wp2_with fail
   go_region_with (go_at_call 135;refine (Tryz.strings_Compare _ _ _).mono ?_;rintro e w' ⟨rfl,rfl⟩)
   all_goals
    generalize n:Lib.compareBytes x.data.toList y.data.toList=cm at *
    have Q:=Zb n
    clear n
    by_cases h0:cm=0
    ·have z:(cm != 0)=false:=by simp [h0]
     go_wp2_with fail
     go_roundw
     case rel=>exact ⟨j+1,by omega,by go_num,⟨_,rfl⟩,by have:=p.out;rw [if_pos h0] at this;rw [<- this];exact f.out⟩
     case measure=>simp [intOf];omega
    ·have z:(cm != 0)=true:=by simp [h0]
     go_wp2_with fail
     go_ret
     refine ⟨?_,_,rfl⟩
     have:=p.out;rw [if_neg h0] at this;rw [<- f.out,this];rfl
  ·go_wp2_with fail
   refine (Zpj _ _ _).mono ?_
   rintro e w' ⟨rfl,rfl⟩
   go_wp2_with fail
   go_ret
   refine ⟨?_,_,rfl⟩
   rw [<- f.out,Jcz (by have:=R.out;omega)];rfl
end
section
open Go.RowKit Go.Shelf
mutual
def Zho  : Zi->Zi->Int
 | .mk k b n s ks ts,.mk I b' V W d c =>
  if Zcs (Zb7 k) (Zb7 I)=0 then
   (if k=5 then (if agS ks d=0 then ordL ts c else agS ks d)
     else if k=4 then ordL ts c
     else if k=3 then Lib.compareBytes s.data.toList W.data.toList
     else if k=1 then Zcs (Ziy b) (Ziy b')
     else Zcs n V)
  else Zcs (Zb7 k) (Zb7 I)
def ordL  : List Zi->List Zi->Int
 | [],[]=>0
 | [],_::_=>-1
 | _::_,[]=>1
 | a::r,b::t=>if Zho a b=0 then ordL r t else Zho a b
end
theorem Zyl {a b:List Zi} {i:Nat} {x y:Zi} (h1:a[i]?=some x) (h2:b[i]?=some y):ordL (a.drop i) (b.drop i)=(if Zho x y=0 then ordL (a.drop (i+1)) (b.drop (i+1)) else Zho x y):=by
 obtain ⟨l1,rfl⟩:=List.getElem?_eq_some_iff.1 h1
 obtain ⟨l2,rfl⟩:=List.getElem?_eq_some_iff.1 h2
 rw [List.drop_eq_getElem_cons l1,List.drop_eq_getElem_cons l2,ordL]
theorem Jbh {a b:List Zi} {i:Nat} (h:i=min a.length b.length):ordL (a.drop i) (b.drop i)=Zcs a.length b.length:=by
 unfold Zcs
 by_cases h1:a.length<b.length
 ·rw [if_pos (by omega),List.drop_of_length_le (by omega),List.drop_eq_getElem_cons (by omega:i<b.length),ordL]
 ·rw [if_neg (by omega)]
  by_cases h2:b.length<a.length
  ·rw [if_pos (by omega),List.drop_of_length_le (l:=b) (by omega),List.drop_eq_getElem_cons (by omega:i<a.length),ordL]
  ·rw [if_neg (by omega),List.drop_of_length_le (by omega),List.drop_of_length_le (by omega),ordL]
def Zbi (B:Nat) (w:World) (la:Option Addr) (ts:List Zi):Prop:=ts=[]\/∃ bl off,la=some ⟨bl,off,none⟩/\bl<B/\KidsLie B w bl off ts
theorem Zbi.below {B:Nat} {w w':World} {la:Option Addr} {ts:List Zi} (h:Zbi B w la ts) (hb:Below B w w'):Zbi B w' la ts:=by
 rcases h with h | ⟨bl,off,e,hl,hk⟩
 ·exact .inl h
 ·exact .inr ⟨bl,off,e,hl,hk.below hb hl⟩
theorem Zjm (a:List Zi) (ih:∀ t ∈ a,∀ (B:Nat) (v Q:Value) (K:Zi) (w:World),B<=w.heap.size->Zaw B w v t->Zaw B w Q K->Calls Tryz.prog 186 #[v,Q] w fun e w'=>e=.returned (.int .i64 (Zho t K))/\Below w.heap.size w w'/\w.drawn<=w'.drawn)
  (B:Nat) (la lb:Option Addr) (ca cb:Nat) (b:List Zi) (w:World) (D:B<=w.heap.size) (ha:Zbi B w la a) (hb:Zbi B w lb b) (h1:a.length<=ca) (h2:ca<=maxLen) (h3:b.length<=cb) (h4:cb<=maxLen) :
  Calls Tryz.prog 224 #[.slice la a.length ca,.slice lb b.length cb,.func (.func 186) #[] #[]] w fun e w'=>e=.returned (.int .i64 (ordL a b))/\Below w.heap.size w w'/\w.drawn<=w'.drawn:=by
 unfold maxLen at h2 h4
 have HN:Hid (min (a.length:Int) (b.length:Int)=((min a.length b.length:Nat):Int)):=by show _=_;omega
 go_enter Tryz.func224,Tryz.ntmps224
 go_wp2_with fail
 rw [HN.out]
 generalize hm:min a.length b.length=m at *
 have f4:m<=a.length:=by omega
 have e7:m<=b.length:=by omega
 have HM:Hid (m=min a.length b.length):=hm.symm
 clear hm
 go_loopw [14] (fun i wr=>∃ j:Nat,j<=m/\i=.int .i64 j/\Below w.heap.size w wr/\w.drawn<=wr.drawn/\ordL (a.drop j) (b.drop j)=ordL a b) (fun i _=>m - (intOf i).toNat)
 case atStart=>exact ⟨0,Nat.zero_le _,rfl,Below.refl _ _,Nat.le_refl _,rfl⟩
 case round =>
  obtain ⟨j,hj,rfl,G,b3,N⟩:=hrel
  have b6:=Zb b3
  clear b3
  have U:Hid (ordL (a.drop j) (b.drop j)=ordL a b):=N
  clear N
  by_cases hlt:j<m
  ·obtain ⟨bl,off,rfl,f7,hk⟩:=ha.resolve_left (by intro e;subst e;simp at f4;omega)
   obtain ⟨g5,g1,rfl,d8,R⟩:=hb.resolve_left (by intro e;subst e;simp at e7;omega)
   have e6:j<a.length:=by omega
   have e2:j<b.length:=by omega
   obtain ⟨⟨k,x,n,s,ks,ts⟩,hx⟩:∃ t,a[j]?=some t:=⟨_,List.getElem?_eq_getElem e6⟩
   obtain ⟨⟨I,x',V,W,d,c⟩,hy⟩:∃ t,b[j]?=some t:=⟨_,List.getElem?_eq_getElem e2⟩
   have b8:=Zb (Zyl hx hy)
   have d6:=hk.below (G.mono D) f7
   have a3:=R.below (G.mono D) d8
   obtain ⟨ka,kc,la,lc,⟨c0,c1,c2,c3,c4,c5⟩,hl⟩:=d6.cells hx
   obtain ⟨X,S,E,O,⟨d0,d1,d2,d3,d4,d5⟩,b5⟩:=a3.cells hy
   have e0:=Zb (ih _ (List.mem_of_getElem? hx))
   clear hx hy hk R d6 a3
   have hL:=Zb hl
   have f6:=Zb b5
   clear hl b5
   have f3:B<=wr.heap.size:=Nat.le_trans D G.size
   go_wp2_with fail
   have HC:=Zb (e0.out B _ _ _ wr.drew (show B<=wr.drew.heap.size from f3) (hL.out.below (Below.refl B wr).drew) (f6.out.below (Below.refl B wr).drew))
   go_region_with (go_at_call 186;refine HC.out.mono ?_;rintro e w' ⟨rfl,c8,d7⟩)
   all_goals
    have c9:Hid (Below w.heap.size w w'):=G.drew.trans (c8.mono G.size)
    have b1:Hid (w.drawn<=w'.drawn):=Nat.le_trans b6.out (Nat.le_trans (Nat.le_succ _) d7)
    clear d7
    generalize a8:Zho (.mk k x n s ks ts) (.mk I x' V W d c)=cm at *
    have g6:=Zb a8
    clear a8 c8 c0 c1 c2 c3 c4 c5 d0 d1 d2 d3 d4 d5
    by_cases h0:cm=0
    ·have f1:(cm != 0)=false:=by simp [h0]
     go_wp2_with fail
     go_roundw
     case rel=>exact ⟨j+1,by omega,by go_num,c9.out,b1.out,by have:=b8.out;rw [if_pos h0] at this;rw [<- this];exact U.out⟩
     case measure=>simp [intOf];omega
    ·have f1:(cm != 0)=true:=by simp [h0]
     go_wp2_with fail
     go_ret
     refine ⟨?_,c9.out,b1.out⟩
     have:=b8.out;rw [if_neg h0] at this;rw [<- U.out,this];rfl
  ·go_wp2_with fail
   refine (Zpj _ _ _).mono ?_
   rintro e w' ⟨rfl,rfl⟩
   go_wp2_with fail
   go_ret
   refine ⟨?_,G,b6.out⟩
   rw [<- U.out,Jbh (by have:=HM.out;omega)];rfl
theorem Zgl {w w1:World} {A A':Array Value} (hb:Below ((w.alloc (.cells A 60)).alloc (.cells A' 60)).heap.size ((w.alloc (.cells A 60)).alloc (.cells A' 60)) w1) :
  Below w.heap.size w w1/\(∀ i v,A[i]?=some v->w1.cell? ⟨w.heap.size,i,none⟩=some v)/\(∀ i v,A'[i]?=some v->w1.cell? ⟨w.heap.size+1,i,none⟩=some v):=by
 simp only [World.size_alloc] at hb
 refine ⟨(((Below.refl _ w).alloc (Nat.le_refl _) _).alloc (by simp) _).trans (hb.mono (by omega)),fun i v hi=>?_,fun i v hi=>?_⟩
 ·rw [hb.cell (p:=⟨w.heap.size,i,none⟩) (by show w.heap.size<_;omega),World.cell?_of_block (Below.heap_alloc _ _ _ (by simp))]
  exact Zaj _ _ _ _ _ hi
 ·rw [hb.cell (p:=⟨w.heap.size+1,i,none⟩) (by show w.heap.size+1<_;omega)]
  have:=Zaj (w.alloc (.cells A 60)) A' 60 i v hi
  rwa [World.size_alloc] at this
theorem Zt0  : ∀ (T:Zi) (B:Nat) (v Q:Value) (K:Zi) (w:World),B<=w.heap.size->Zaw B w v T->Zaw B w Q K ->
  Calls Tryz.prog 186 #[v,Q] w fun e w'=>e=.returned (.int .i64 (Zho T K))/\Below w.heap.size w w'/\w.drawn<=w'.drawn:=by
 refine Zi.ind ?_
 intro k x n s ks ts ih B v Q K w D hv c7
 obtain ⟨I,x',V,W,d,c⟩:=K
 simp only [Zaw] at hv c7
 obtain ⟨ka,kc,la,lc,rfl,⟨g3,f5,f2,b4,a9⟩,hk,ht⟩:=hv
 obtain ⟨X,S,E,O,rfl,⟨g2,g0,f9,b9,b2⟩,R,d9⟩:=c7
 have b7:Zbi B w la ts:=ht
 have a2:Zbi B w E c:=d9
 have c6:=Zb (Zjm ts ih)
 clear ih ht d9
 have a1:Zho (.mk k x n s ks ts) (.mk I x' V W d c)=(if Zcs (Zb7 k) (Zb7 I)=0 then
   (if k=5 then (if agS ks d=0 then ordL ts c else agS ks d) else if k=4 then ordL ts c else if k=3 then Lib.compareBytes s.data.toList W.data.toList else if k=1 then Zcs (Ziy x) (Ziy x') else Zcs n V)
  else Zcs (Zb7 k) (Zb7 I)):=by rw [Zho]
 have HO:=Zb a1
 clear a1
 generalize Zho (.mk k x n s ks ts) (.mk I x' V W d c)=res at *
 have a6:Below w.heap.size w ((w.alloc (.cells #[.int .i64 k,.bool x,.int .i64 n,.string s,.slice ka ks.length kc,.slice la ts.length lc] 60)).alloc (.cells #[.int .i64 I,.bool x',.int .i64 V,.string W,.slice X d.length S,.slice E c.length O] 60)):=((Below.refl _ w).alloc (Nat.le_refl _) _).alloc (by simp) _
 have f8:=Zb a6
 clear a6
 go_enter Tryz.func186,Tryz.ntmps186
 go_wp2_with fail
 go_quiet (first | (go_at_call 222;exact Calls.quiet_of_same (Zz0 _ _)) | (go_at_call 221;exact Calls.quiet_of_same (Zpj _ _ _)))
 generalize a7:Zcs (Zb7 k) (Zb7 I)=cr at *
 have g4:=Zb a7
 clear a7
 generalize a4:World.drewN _ nq=W3
 have e9:=Zgl (w:=w) (w1:=W3) (A:=#[.int .i64 k,.bool x,.int .i64 n,.string s,.slice ka ks.length kc,.slice la ts.length lc]) (A':=#[.int .i64 I,.bool x',.int .i64 V,.string W,.slice X d.length S,.slice E c.length O]) (by rw [<- a4];exact below_drewN (Below.refl _ _) _)
 have z:Hid (w.drawn<=W3.drawn):=by rw [<- a4];exact Nat.le_add_right _ _
 clear a4 f8
 obtain ⟨f,C,o⟩:=e9
 have q0:=C 0 _ rfl
 have q1:=C 1 _ rfl
 have q2:=C 2 _ rfl
 have q3:=C 3 _ rfl
 have q4:=C 4 _ rfl
 have q5:=C 5 _ rfl
 have r1:=o 1 _ rfl
 have r2:=o 2 _ rfl
 have r3:=o 3 _ rfl
 have r4:=o 4 _ rfl
 have r5:=o 5 _ rfl
 clear C o
 have b0:=f.size
 by_cases c0:cr=0
 ·have f0:(cr != 0)=false:=by simp [c0]
  have H:=Zb (HO.out.trans (if_pos c0))
  clear HO c0
  by_cases k5:k=5
  ·have e5:=Zah k5
   have u:=Zb (H.out.trans (if_pos k5))
   clear H k5
   go_wp2_with fail
   refine (Zlz B ka X kc S ks d W3 (hk.below (f.mono D)) (R.below (f.mono D)) f5 f2 g0 f9).mono ?_
   rintro e w4 ⟨rfl,q,rfl⟩
   generalize N:agS ks d=ag at *
   have U:=Zb N
   clear N
   by_cases a0:ag=0
   ·have e8:(ag != 0)=false:=by simp [a0]
    have g:=Zb (u.out.trans (if_pos a0))
    clear u a0
    have Y:Below w.heap.size w (W3.drewN q):=below_drewN f _
    go_wp2_with fail
    refine (c6.out B la E lc O c (W3.drewN q) (Nat.le_trans D b0) (b7.below (Y.mono D)) (a2.below (Y.mono D)) b4 a9 b9 b2).mono ?_
    rintro e w5 ⟨rfl,M,P⟩
    have L:=Za Y M
    have HF:Hid (w.drawn<=w5.drawn):=Nat.le_trans z.out (Nat.le_trans (Nat.le_add_right _ _) P)
    clear P
    clear M Y q0 q1 q2 q3 q4 q5 r1 r2 r3 r4 r5
    go_wp2_with fail
    go_ret
    exact ⟨by rw [g.out];rfl,L,HF.out⟩
   ·have e8:(ag != 0)=true:=by simp [a0]
    have g:=Zb (u.out.trans (if_neg a0))
    clear u a0
    go_wp2_with fail
    go_ret
    exact ⟨by rw [g.out];rfl,below_drewN f _,Nat.le_trans z.out (Nat.le_add_right _ _)⟩
  ·have e5:=Zh k5
   have u:=Zb (H.out.trans (if_neg k5))
   clear H k5
   by_cases k4:k=4
   ·have e4:=Zah k4
    have g:=Zb (u.out.trans (if_pos k4))
    clear u k4
    go_wp2_with fail
    refine (c6.out B la E lc O c W3 (Nat.le_trans D b0) (b7.below (f.mono D)) (a2.below (f.mono D)) b4 a9 b9 b2).mono ?_
    rintro e w5 ⟨rfl,M,P⟩
    have L:=Za f M
    have HF:Hid (w.drawn<=w5.drawn):=Nat.le_trans z.out P
    clear P
    clear M f q0 q1 q2 q3 q4 q5 r1 r2 r3 r4 r5
    go_wp2_with fail
    go_ret
    exact ⟨by rw [g.out];rfl,L,HF.out⟩
   ·have e4:=Zh k4
    have g:=Zb (u.out.trans (if_neg k4))
    clear u k4
    by_cases k3:k=3
    ·have e3:=Zah k3
     have F:=Zb (g.out.trans (if_pos k3))
     clear g k3
     go_wp2_with fail
     refine (Tryz.strings_Compare _ _ _).mono ?_
     rintro e w5 ⟨rfl,rfl⟩
     go_wp2_with fail
     go_ret
     exact ⟨by rw [F.out];rfl,f,z.out⟩
    ·have e3:=Zh k3
     have F:=Zb (g.out.trans (if_neg k3))
     clear g k3
     by_cases k1:k=1
     ·have e1:=Zah k1
      have a5:=Zb (F.out.trans (if_pos k1))
      clear F k1
      go_wp2_with fail
      go_quiet (first | (go_at_call 226;exact Calls.quiet_of_same (Zwn _ _)) | (go_at_call 225;exact Calls.quiet_of_same (Zwl _ _ _)))
      go_wp2_with fail
      go_ret
      exact ⟨by rw [a5.out];rfl,below_drewN f _,Nat.le_trans z.out (Nat.le_add_right _ _)⟩
     ·have e1:=Zh k1
      have a5:=Zb (F.out.trans (if_neg k1))
      clear F k1
      go_wp2_with fail
      refine (Zwm _ _ _).mono ?_
      rintro e w5 ⟨rfl,rfl⟩
      go_wp2_with fail
      go_ret
      exact ⟨by rw [a5.out];rfl,f,z.out⟩
 ·have f0:(cr != 0)=true:=by simp [c0]
  have H:=Zb (HO.out.trans (if_neg c0))
  clear HO c0
  go_wp2_with fail
  go_ret
  exact ⟨by rw [H.out];rfl,f,z.out⟩
theorem Zym (T:Zi) (B:Nat) (v Q:Value) (K:Zi) (w:World) (D:B<=w.heap.size) (h:Zaw B w v T) (h':Zaw B w Q K) :
  Calls Tryz.prog 186 #[v,Q] w fun e w'=>e=.returned (.int .i64 (Zho T K))/\Below w.heap.size w w':=(Zt0 T B v Q K w D h h').mono fun _ _ ⟨h1,h2,_⟩=>⟨h1,h2⟩
end
section
open Go.RowKit Go.Shelf
theorem Jcs  : ∃ g,Tryz.prog.underlying 20=some (.interface g):=⟨_,Tryz.underlying20⟩
theorem Jey  : (Tryz.prog.info? 28).map (·.comparable)=some true:=by kernel_rfl
theorem Jct (w:World):(binOp .eql 20 (.iface 28 (.int .i64 3)) (.iface 28 (.int .i64 3))).run Tryz.prog w=.ok (.bool true) w:=by
 obtain ⟨g,b⟩:=Jcs
 have c:∃ i,Tryz.prog.info? 28=some i/\i.comparable=true:=by
  have:=Jey
  cases h:Tryz.prog.info? 28 with
  | none=>rw [h] at this;cases this
  | some i=>rw [h] at this;exact ⟨i,rfl,by simpa using this⟩
 obtain ⟨i,k,j⟩:=c
 have h:∀ d:Nat,(Op.equalIn (d+2) 20 (.iface 28 (.int .i64 3)) (.iface 28 (.int .i64 3))).run Tryz.prog w=.ok true w:=fun d=>by
  simp [Op.equalIn,run_underlying b,run_underlying Tryz.underlying28,typeInfo,k,j]
 simp only [binOp]
 simp [Op.equal,Op.maxDepth,h 9998]
theorem Zs9 (n:Nat) (p:Addr) (z:Int) (w:World) (j:w.cell? p=some (.int .i64 z)) (o:w.frozen? p=false) :
  CallsDIn Fence.wide n Tryz.prog 206 #[.pointer (some p)] (.panicking [{ v:=.iface 28 (.int .i64 3),recovered:=false }]) w fun e f w' =>
   e=.returned (.tuple #[])/\f=.panicking [{ v:=.iface 28 (.int .i64 3),recovered:=true }]/\w'=w.setCell p (.int .i64 3):=by
 have m:=Jct w
 refine callsDIn_of_wpSIn Tryz.func206 rfl trivial fun c₀ cs hu=>?_
 apply wpSIn_seq
 apply wpSIn_region
 simp [wpOpsSIn,go_sem,recoverD,hu,Tryz.ntmps206,Exit.thenS,Oper.about,Fence.wide,Array.replicate_succ]
 refine wpSIn_of_wpIn rfl ?_
 gi_wp2
 exact ⟨rfl,_,rfl,_,(by simp [results,Tryz.results206]),rfl,rfl,rfl⟩
theorem Zta (n:Nat) (p:Addr) (w:World) :
  CallsDIn Fence.wide n Tryz.prog 206 #[.pointer (some p)] .returning w fun e f w'=>e=.returned (.tuple #[])/\f=.returning/\w'=w:=by
 have m:=run_eql_iface_nil_left (P:=Tryz.prog) w 28 (.int .i64 3) Tryz.underlying20
 have l:=run_neq_nil_nil (P:=Tryz.prog) w 20 (by kernel_rfl)
 refine callsDIn_of_wpSIn Tryz.func206 rfl trivial fun c₀ cs hu=>?_
 apply wpSIn_seq
 apply wpSIn_region
 simp [wpOpsSIn,go_sem,recoverD,hu,Tryz.ntmps206,Exit.thenS,Oper.about,Fence.wide,Array.replicate_succ]
 refine wpSIn_of_wpIn rfl ?_
 gi_wp2
 cases c₀
 simp only at hu
 subst hu
 exact ⟨rfl,_,rfl,_,(by simp [results,Tryz.results206]),rfl,rfl,rfl⟩
end
