/- Rows held against each other: what the sorts ask. Rows of ends and keys held against each other. Rows of their own put in order where they lie: what the sorts of at most twelve leave. Rows of their own put in order where they lie: what a sort of any length leaves. The sort of counts' rows, at most twelve of them (121). The sort of counts' rows, at most twelve of them (123). -/
import Derived.Shelf.SlSortCmp.InsertionK
import Derived.Test.YthfilnflgahcjaaGreatDoorJoin7
import Derived.Test.YthfilnflgahcjaaGreatDoorShelf2
import Derived.Test.YthfilnflgahcjaaGreatDoorJoin4
import Derived.Test.YthfilnflgahcjaaGreatDoorJoin2
import Derived.Test.YthfilnflgahcjaaGreatDoorJoin12
namespace Go.Proofs.YthfilnflgahcjaaGreatDoor
open Go.RowKit Go.Shelf Go.Sort
set_option linter.all false
attribute [local go_sem] Oper.semAt_some
noncomputable def Zc5 (a b:ByteArray):Int:=Lib.compareBytes a.data.toList b.data.toList
noncomputable def cfL (x y:ByteArray × Int):Int:=Zc5 x.1 y.1
set_option maxRecDepth 100000 in
set_option maxHeartbeats 4000000 in
theorem Zpc (x y:ByteArray × Int) (w:World):Calls Tryz.prog 85 (#[.agg (Za0 x).toArray,.agg (Za0 y).toArray]++#[]) w fun e w'=>e=.returned (.int .i64 (cfL x y))/\∃ q f,w'=grow (w.drewN q) f:=by
 obtain ⟨key,n⟩:=x
 obtain ⟨d,p⟩:=y
 have o:=Za (fun W=>Tryz.strings_Compare key d W)
 have t:Hid (cfL (key,n) (d,p)=Lib.compareBytes key.data.toList d.data.toList):=rfl
 simp only [Za0]
 generalize cfL _ _=z at t |-
 rw [<- t.out] at o
 clear t
 go_enter Tryz.func85,Tryz.ntmps85
 go_upto_region 1 with fail
 generalize k:World.alloc _ _=W1
 have l:Rec ((w.alloc (.cells #[.string key,.int .i64 n] 42)).alloc (.cells #[.string d,.int .i64 p] 42)) w.heap.size #[.string key,.int .i64 n] 42:=(Zk w #[.string key,.int .i64 n] 42).below ((Below.refl _ _).alloc (Nat.le_refl _) _) (by simp)
 have g:=Zk (w.alloc (.cells #[.string key,.int .i64 n] 42)) #[.string d,.int .i64 p] 42
 rw [k] at l g
 rw [World.size_alloc] at g
 have E:Hid (∃ f,W1=grow w f):=⟨_,by rw [<- k,alloc_eq_grow,alloc_eq_grow,grow_grow]⟩
 have O:=l.cell 0 rfl
 have Q:=g.cell 0 rfl
 clear l g k
 go_wp2_with fail
 refine (o.out W1).mono ?_
 rintro e w2 ⟨rfl,m⟩
 rw [m]
 clear m
 go_wp2_with fail
 go_ret
 obtain ⟨f,h⟩:=E.out
 exact ⟨rfl,0,f,by rw [h];rfl⟩
set_option maxRecDepth 100000 in
set_option maxHeartbeats 4000000 in
theorem Zpd (x y:ByteArray × Int) (w:World):Calls Tryz.prog 89 (#[.agg (Za0 x).toArray,.agg (Za0 y).toArray]++#[]) w fun e w'=>e=.returned (.int .i64 (cfL x y))/\∃ q f,w'=grow (w.drewN q) f:=by
 obtain ⟨key,n⟩:=x
 obtain ⟨d,p⟩:=y
 have o:=Za (fun W=>Tryz.strings_Compare key d W)
 have t:Hid (cfL (key,n) (d,p)=Lib.compareBytes key.data.toList d.data.toList):=rfl
 simp only [Za0]
 generalize cfL _ _=z at t |-
 rw [<- t.out] at o
 clear t
 go_enter Tryz.func89,Tryz.ntmps89
 go_upto_region 1 with fail
 generalize k:World.alloc _ _=W1
 have l:Rec ((w.alloc (.cells #[.string key,.int .i64 n] 62)).alloc (.cells #[.string d,.int .i64 p] 62)) w.heap.size #[.string key,.int .i64 n] 62:=(Zk w #[.string key,.int .i64 n] 62).below ((Below.refl _ _).alloc (Nat.le_refl _) _) (by simp)
 have g:=Zk (w.alloc (.cells #[.string key,.int .i64 n] 62)) #[.string d,.int .i64 p] 62
 rw [k] at l g
 rw [World.size_alloc] at g
 have E:Hid (∃ f,W1=grow w f):=⟨_,by rw [<- k,alloc_eq_grow,alloc_eq_grow,grow_grow]⟩
 have O:=l.cell 0 rfl
 have Q:=g.cell 0 rfl
 clear l g k
 go_wp2_with fail
 refine (o.out W1).mono ?_
 rintro e w2 ⟨rfl,m⟩
 rw [m]
 clear m
 go_wp2_with fail
 go_ret
 obtain ⟨f,h⟩:=E.out
 exact ⟨rfl,0,f,by rw [h];rfl⟩
def Zkd (a b:Bool):Int:=if a=b then 0 else if b then -1 else 1
set_option maxRecDepth 100000 in
theorem Zwp (a b:Bool) (w:World):Calls Tryz.prog 95 #[.bool a,.bool b] w fun e w'=>e=.returned (.int .i64 (Zkd a b))/\w'=w:=by
 have H:Hid (∀ a b,Zkd a b=Zkd a b):=fun _ _=>rfl
 cases a<;>cases b
 all_goals
  go_enter Tryz.func95,Tryz.ntmps95
  go_wp2_with fail
 all_goals
  go_ret
  exact ⟨rfl,rfl⟩
def orI:List Int->Int
 | []=>0
 | x::r=>if x=0 then orI r else x
theorem Zs8 (xs:List Int) (j:Nat) (h:∀ i,i<j->xs.getD i 0=0):orI xs=orI (xs.drop j):=by
 induction j generalizing xs with
 | zero=>rfl
 | succ j ih =>
  cases xs with
  | nil=>simp
  | cons x r =>
   have B:x=0:=by simpa using h 0 (by omega)
   subst B
   simp only [orI,if_true,List.drop_succ_cons]
   exact ih r fun i K=>by simpa using h (i+1) (by omega)
set_option maxRecDepth 100000 in
set_option maxHeartbeats 4000000 in
theorem Jcd (xs:List Int) (b off c:Nat) (w:World) (hl:xs.length<=1000) (I:∀ i,i<xs.length->w.cell? ⟨b,off+i,none⟩=some (.int .i64 (xs.getD i 0))):Calls Tryz.prog 94 #[.slice (some ⟨b,off,none⟩) xs.length c] w fun e w'=>e=.returned (.int .i64 (orI xs))/\w'=w:=by
 have o:=Za I
 obtain ⟨n,hn⟩:∃ n,xs.length=n:=⟨_,rfl⟩
 have C:=Za hn
 rw [hn] at hl |-
 clear I hn
 go_enter Tryz.func94,Tryz.ntmps94
 go_wp2_with fail
 go_loopw [8] (fun i wr=>∃ j:Nat,j<=n/\i=.int .i64 j/\wr=w/\∀ i,i<j->xs.getD i 0=0) (fun i _=>n - (intOf i).toNat)
 case atStart=>exact ⟨0,Nat.zero_le _,rfl,rfl,fun i K=>by omega⟩
 case round =>
  obtain ⟨j,R,rfl,A,L⟩:=hrel
  have F:=Za L
  rw [A]
  clear L A
  by_cases hlt:j<n
  ·have v:(j:Int)<n:=by omega
   have M:=o.out j (by have:=C.out;omega)
   obtain ⟨z,s⟩:∃ z,xs.getD j 0=z:=⟨_,rfl⟩
   rw [s] at M
   have G:=Za s
   clear s
   by_cases B:z=0
   ·have D:Hid (xs.getD j 0=0):=G.out.trans B
    subst B
    go_wp2_with fail
    go_roundw
    case rel =>
     refine ⟨j+1,by omega,by go_num,by trivial,fun i K=>?_⟩
     by_cases hij:i=j
     ·subst hij;exact D.out
     ·exact F.out i (by omega)
    case measure=>simp [intOf];omega
   ·go_wp2_with fail
    go_ret
    refine ⟨?_,rfl⟩
    have P:=Zs8 xs j F.out
    have N:xs.drop j=xs.getD j 0::xs.drop (j+1):=by
     have u:j<xs.length:=by have:=C.out;omega
     rw [List.drop_eq_getElem_cons u];simp [List.getD_eq_getElem?_getD,u]
    rw [P,N,G.out,orI,if_neg B]
    rfl
  ·have v:¬ (j:Int)<n:=by omega
   go_wp2_with fail
   go_ret
   refine ⟨?_,rfl⟩
   rw [Zs8 xs j F.out,List.drop_of_length_le (by have:=C.out;omega)]
   rfl
end Go.Proofs.YthfilnflgahcjaaGreatDoor

namespace Go.Proofs.YthfilnflgahcjaaGreatDoor
open Go.RowKit Go.Shelf Go.Sort
set_option linter.all false
attribute [local go_sem] Oper.semAt_some
theorem Zk5 {P:Program} {Q:Exit->Act->World->Prop} {id:Nat} {L:List Oper} {a:Act} {w:World} (k:Nat) (T:List Nat) (hm:P.follows .mixedOrders=true) (hB:Jc3 L k T=true)
  (h:wpQuiet P L.toArray (fun w'=>∃ n,w'=w.drewN n) (fun M=>∀ w',(∃ n,w'=w.drewN n)->wpList P L.toArray Q (Zac L T) M w') (L.take k) a):(Code.region id L.toArray true).wp P Q a w :=
 Jc4 (C:=fun w'=>∃ n,w'=w.drewN n) k T hm hB ⟨1,rfl⟩ h
noncomputable def cfE (x y:Zae):Int:=orI [Zc5 x.1 y.1,Zc5 x.2.1 y.2.1,Zkd x.2.2.1 y.2.2.1]
set_option maxRecDepth 100000 in
set_option maxHeartbeats 4000000 in
theorem Zpr (x y:Zae) (w:World):Calls Tryz.prog 93 (#[.agg (Zc7 x).toArray,.agg (Zc7 y).toArray]++#[]) w fun e w'=>e=.returned (.int .i64 (cfE x y))/\∃ q d,w'=grow (w.drewN q) d:=by
 obtain ⟨t,l,o,n⟩:=x
 obtain ⟨t2,l2,r,u⟩:=y
 have B:=Za (fun W=>Tryz.strings_Compare t t2 W)
 have v:=Za (fun W=>Tryz.strings_Compare l l2 W)
 have F:=Za (fun W=>Zwp o r W)
 have j:Hid (cfE (t,l,o,n) (t2,l2,r,u)=orI [Lib.compareBytes t.data.toList t2.data.toList,Lib.compareBytes l.data.toList l2.data.toList,Zkd o r]):=rfl
 simp only [Zc7]
 generalize cfE _ _=z at j |-
 generalize Lib.compareBytes t.data.toList t2.data.toList=z1 at j B
 generalize Lib.compareBytes l.data.toList l2.data.toList=z2 at j v
 generalize Zkd o r=z3 at j F
 have A:=Za (fun b W h=>Jcd [z1,z2,z3] b 0 3 W (by simp) h)
 rw [<- j.out] at A
 clear j
 go_enter Tryz.func93,Tryz.ntmps93
 go_upto_region 1 with fail
 generalize g:World.alloc _ _=W1
 have f:Rec ((w.alloc (.cells #[.string t,.string l,.bool o,.int .i64 n] 64)).alloc (.cells #[.string t2,.string l2,.bool r,.int .i64 u] 64)) w.heap.size #[.string t,.string l,.bool o,.int .i64 n] 64:=(Zk w #[.string t,.string l,.bool o,.int .i64 n] 64).below ((Below.refl _ _).alloc (Nat.le_refl _) _) (by simp)
 have c:=Zk (w.alloc (.cells #[.string t,.string l,.bool o,.int .i64 n] 64)) #[.string t2,.string l2,.bool r,.int .i64 u] 64
 rw [g] at f c
 rw [World.size_alloc] at c
 have E:Hid (∃ d,W1=grow w d):=⟨_,by rw [<- g,alloc_eq_grow,alloc_eq_grow,grow_grow]⟩
 have H:=f.cell 0 rfl
 have G:=f.cell 1 rfl
 have N:=f.cell 2 rfl
 have I:=c.cell 0 rfl
 have K:=c.cell 1 rfl
 have O:=c.cell 2 rfl
 clear f c g
 refine Zk5 15 [15,16,17] (by kernel_rfl) (by kernel_rfl) ?_
 simp only [List.take_succ_cons,List.take_zero]
 repeat (go_big_quiet_step (first | (go_at_call 95;exact Calls.quiet_of_same (F.out _)) | (exact Calls.quiet_of_same (B.out _)) | (exact Calls.quiet_of_same (v.out _))))
 refine wpQuiet_nil ?_
 rintro w' ⟨s,rfl⟩
 simp only [Zac,Zbn]
 go_wp2_with fail
 have m:∀ i,i<[z1,z2,z3].length->((W1.drewN s).alloc (.cells #[.int .i64 z1,.int .i64 z2,.int .i64 z3] 3)).cell? ⟨W1.heap.size,0+i,none⟩=some (.int .i64 ([z1,z2,z3].getD i 0)):=fun i D=>by
  have hr:=Zk (W1.drewN s) #[.int .i64 z1,.int .i64 z2,.int .i64 z3] 3
  match i,D with
  | 0,_=>exact hr.cell 0 rfl
  | 1,_=>exact hr.cell 1 rfl
  | 2,_=>exact hr.cell 2 rfl
 refine (A.out _ _ m).mono ?_
 rintro e w2 ⟨rfl,p⟩
 rw [p]
 clear p m
 go_wp2_with fail
 go_ret
 obtain ⟨d,h⟩:=E.out
 refine ⟨rfl,s,d.push (.cells #[.int .i64 z1,.int .i64 z2,.int .i64 z3] 3),?_⟩
 rw [h]
 simp [alloc_eq_grow,grow,World.drewN]
noncomputable def cfK (x y:Zav):Int:=orI [Zc5 x.1 y.1,Zc5 x.2.1 y.2.1]
set_option maxRecDepth 100000 in
set_option maxHeartbeats 4000000 in
theorem Zps (x y:Zav) (w:World):Calls Tryz.prog 99 (#[.agg (Zd3 x).toArray,.agg (Zd3 y).toArray]++#[]) w fun e w'=>e=.returned (.int .i64 (cfK x y))/\∃ q d,w'=grow (w.drewN q) d:=by
 obtain ⟨t,l,o,n⟩:=x
 obtain ⟨t2,l2,r,u⟩:=y
 have B:=Za (fun W=>Tryz.strings_Compare t t2 W)
 have v:=Za (fun W=>Tryz.strings_Compare l l2 W)
 have j:Hid (cfK (t,l,o,n) (t2,l2,r,u)=orI [Lib.compareBytes t.data.toList t2.data.toList,Lib.compareBytes l.data.toList l2.data.toList]):=rfl
 simp only [Zd3]
 generalize cfK _ _=z at j |-
 generalize Lib.compareBytes t.data.toList t2.data.toList=z1 at j B
 generalize Lib.compareBytes l.data.toList l2.data.toList=z2 at j v
 have A:=Za (fun b W h=>Jcd [z1,z2] b 0 2 W (by simp) h)
 rw [<- j.out] at A
 clear j
 go_enter Tryz.func99,Tryz.ntmps99
 go_upto_region 1 with fail
 generalize g:World.alloc _ _=W1
 have f:Rec ((w.alloc (.cells #[.string t,.string l,.int .i64 o,.int .i64 n] 66)).alloc (.cells #[.string t2,.string l2,.int .i64 r,.int .i64 u] 66)) w.heap.size #[.string t,.string l,.int .i64 o,.int .i64 n] 66:=(Zk w #[.string t,.string l,.int .i64 o,.int .i64 n] 66).below ((Below.refl _ _).alloc (Nat.le_refl _) _) (by simp)
 have c:=Zk (w.alloc (.cells #[.string t,.string l,.int .i64 o,.int .i64 n] 66)) #[.string t2,.string l2,.int .i64 r,.int .i64 u] 66
 rw [g] at f c
 rw [World.size_alloc] at c
 have E:Hid (∃ d,W1=grow w d):=⟨_,by rw [<- g,alloc_eq_grow,alloc_eq_grow,grow_grow]⟩
 have H:=f.cell 0 rfl
 have G:=f.cell 1 rfl
 have I:=c.cell 0 rfl
 have K:=c.cell 1 rfl
 clear f c g
 refine Zk5 10 [10,11,12] (by kernel_rfl) (by kernel_rfl) ?_
 simp only [List.take_succ_cons,List.take_zero]
 repeat (go_big_quiet_step (first | (exact Calls.quiet_of_same (B.out _)) | (exact Calls.quiet_of_same (v.out _))))
 refine wpQuiet_nil ?_
 rintro w' ⟨s,rfl⟩
 simp only [Zac,Zbn]
 go_wp2_with fail
 have m:∀ i,i<[z1,z2].length->((W1.drewN s).alloc (.cells #[.int .i64 z1,.int .i64 z2] 3)).cell? ⟨W1.heap.size,0+i,none⟩=some (.int .i64 ([z1,z2].getD i 0)):=fun i D=>by
  have hr:=Zk (W1.drewN s) #[.int .i64 z1,.int .i64 z2] 3
  match i,D with
  | 0,_=>exact hr.cell 0 rfl
  | 1,_=>exact hr.cell 1 rfl
 refine (A.out _ _ m).mono ?_
 rintro e w2 ⟨rfl,p⟩
 rw [p]
 clear p m
 go_wp2_with fail
 go_ret
 obtain ⟨d,h⟩:=E.out
 refine ⟨rfl,s,d.push (.cells #[.int .i64 z1,.int .i64 z2] 3),?_⟩
 rw [h]
 simp [alloc_eq_grow,grow,World.drewN]
end Go.Proofs.YthfilnflgahcjaaGreatDoor

namespace Go.Proofs.YthfilnflgahcjaaGreatDoor
open Go.RowKit Go.Shelf Go.Sort
set_option linter.all false
section
variable {α:Type} [Inhabited α] {e k:Nat} {enc:α->List Value}
theorem Zjm (hk:∀ x,(enc x).length=k) {w:World} {g cap:Nat} {m:Array Value} {xs:List α} (s:w.heap[g]?=some (.cells m e (0,0))) (ht:m.toList.take (xs.length*k)=(xs.map enc).flatten):HoldsK enc k w g 0 xs.toArray:=by
 intro t l
 rw [size_flatK] at l
 have r:t<xs.length*k:=by simpa using l
 have I:0<k:=by rcases Nat.eq_zero_or_pos k with h | h;· rw [h] at r;simp at r
                ·exact h
 have E:t / k<xs.length:=Nat.div_lt_of_lt_mul (by rw [Nat.mul_comm];exact r)
 have A:t % k<k:=Nat.mod_lt _ I
 refine ⟨?_,by simp [World.frozen?,s]⟩
 have e1:=Zd6 (xs.map enc) (t / k) (t % k) (enc xs[t / k]) (fun c D=>by obtain ⟨y,_,rfl⟩:=List.mem_map.1 D;exact hk y) (by rw [List.getElem?_map,List.getElem?_eq_getElem E];rfl) A
 rw [<- ht,Nat.div_add_mod' t k,List.getElem?_take_of_lt r,Array.getElem?_toList] at e1
 rw [get_flatK _ _ _ _ l]
 have e2:xs.toArray[t / k]! = xs[t / k]:=by rw [getElem!_pos _ _ (by simpa using E)];simp
 rw [e2]
 have p:w.cell? ⟨g,0+t,none⟩=m[t]?:=by simp [World.cell?,s]
 rw [p,e1,List.getElem?_eq_getElem (by rw [hk];exact A),getElem!_pos (enc xs[t / k]) (t % k) (by rw [hk];exact A)]
 rfl
theorem Zjn (hk:∀ x,(enc x).length=k) {w:World} {g cap base:Nat} {m:Array Value} {d:Array α} (s:w.heap[g]?=some (.cells m e (0,0))) (P:m.size=cap*k) (O:HoldsK enc k w g 0 d) (hb:base<=g) (hn:d.size<=cap) (D:cap<=maxLen):Jb e k enc base w (.slice (some ⟨g,0,none⟩) d.size cap) d.toList:=by
 have C:((d.toList.map enc).flatten).length=d.size*k:=by
  rw [List.length_flatten]
  have:(d.toList.map enc).map List.length=List.replicate d.size k:=by
   rw [List.map_map]
   apply List.eq_replicate_iff.2
   refine ⟨by simp,fun b hb=>?_⟩
   obtain ⟨x,_,rfl⟩:=List.mem_map.1 hb
   exact hk x
  rw [this];simp
 refine ⟨by rw [C];simp,.inr ⟨g,cap,m,by simp,hb,s,by simpa using hn,D,P,?_⟩⟩
 apply List.ext_getElem?
 intro t
 rw [show d.toList.length=d.size by simp]
 by_cases l:t<d.size*k
 ·have I:0<k:=by rcases Nat.eq_zero_or_pos k with h | h;· rw [h] at l;simp at l
                 ·exact h
  have E:t / k<d.size:=Nat.div_lt_of_lt_mul (by rw [Nat.mul_comm];exact l)
  have A:t % k<k:=Nat.mod_lt _ I
  have o:=(O t (by rw [size_flatK];exact l)).1
  rw [get_flatK _ _ _ _ l] at o
  have p:w.cell? ⟨g,0+t,none⟩=m[t]?:=by simp [World.cell?,s]
  rw [p] at o
  have e2:d[t / k]! = d[t / k]:=getElem!_pos d (t / k) E
  rw [e2] at o
  have e1:=Zd6 (d.toList.map enc) (t / k) (t % k) (enc d[t / k]) (fun c D=>by obtain ⟨y,_,rfl⟩:=List.mem_map.1 D;exact hk y) (by rw [List.getElem?_map,List.getElem?_eq_getElem (by simpa using E)];simp) A
  rw [Nat.div_add_mod' t k] at e1
  rw [List.getElem?_take_of_lt l,Array.getElem?_toList,o,e1,List.getElem?_eq_getElem (by rw [hk];exact A),getElem!_pos (enc d[t / k]) (t % k) (by rw [hk];exact A)]
  rfl
 ·rw [List.getElem?_eq_none (by simp;omega),List.getElem?_eq_none (by rw [C];omega)]
theorem Zmn {w:World} {g n:Nat} {d:Array α} {os:Array Obj} {m:Array Value} (s:w.heap[g]?=some (.cells m e (0,0))):∃ u,(sortWorldK enc k w g 0 n d os).heap[g]?=some (.cells u e (0,0))/\u.size=m.size:=by
 have hg:=(Array.getElem?_eq_some_iff.1 s).1
 unfold sortWorldK
 rw [heap_grow_old _ _ (by rw [size_putRowK];exact hg)]
 unfold putRowK putRow mapBlock
 simp only [Sort.ahead,Array.getElem?_modify,s,if_true,Option.map_some,onCells]
 exact ⟨_,rfl,by simp [putCells]⟩
theorem Ze4 (hk:∀ x,(enc x).length=k) (cf:α->α->Int) (Q:SWO (ltOf cf)) (f:FuncId) (c:Value)
  (L:∀ W,Calls Tryz.prog f #[.slice none 0 0,c] W fun e w'=>e=.returned (.tuple #[])/\w'=W)
  (H:∀ (W:World) (g cap:Nat) (d:Array α),HoldsK enc k W g 0 d->d.size<=12->g<W.heap.size->Calls Tryz.prog f #[.slice (some ⟨g,0,none⟩) d.size cap,c] W fun e w'=>e=.returned (.tuple #[])/\∃ n os,w'=sortWorldK enc k W g 0 n (Sort.insertionSort (ltOf cf) d 0 d.size) os)
  (W:World) (v:Value) (base:Nat) (xs:List α) (hB:base<=W.heap.size) (hl:xs.length<=12) (h:Jb e k enc base W v xs) :
  Calls Tryz.prog f #[v,c] W fun R w'=>R=.returned (.tuple #[])/\∃ T,T.Perm xs/\T.Pairwise (fun a b=>¬ cf b a<0)/\Jb e k enc base w' v T/\Below base W w':=by
 obtain ⟨h0,⟨rfl,hn⟩ | ⟨g,cap,m,rfl,hg,s,hn,D,P,ht⟩⟩:=h
 ·have:xs=[]:=List.eq_nil_of_length_eq_zero hn
  subst this
  refine (L W).mono ?_
  rintro R w' ⟨he,rfl⟩
  exact ⟨he,[],List.Perm.refl _,List.Pairwise.nil,Jo _ _ _ _ _,Below.refl _ _⟩
 ·have l:=(Array.getElem?_eq_some_iff.1 s).1
  have O:=Zjm (cap:=cap) hk s ht
  obtain ⟨q,K⟩:=insertionSort_holds (lt:=ltOf cf) Q xs.toArray 0 xs.toArray.size (Nat.zero_le _) (Nat.le_refl _)
  have F:=H W g cap xs.toArray O (by simpa using hl) l
  generalize Sort.insertionSort (ltOf cf) xs.toArray 0 xs.toArray.size=d' at F q K
  rw [show xs.toArray.size=xs.length by simp] at F
  refine F.mono ?_
  rintro R w' ⟨he,n,os,rfl⟩
  have B:d'.size=xs.toArray.size:=q.1
  have Y:d'.toList.Perm xs:=by
   have:=q.2.2
   rw [<- B,Array.extract_size] at this
   rw [B] at this
   simpa using this
  have V:=holdsK_sortWorldK_c enc k W g 0 xs.toArray d' n os O l B
  obtain ⟨u,S,X⟩:=Zmn (e:=e) (enc:=enc) (k:=k) (n:=n) (d:=d') (os:=os) s
  have N:d'.size=xs.length:=by rw [B];simp
  have M:=Zjn (base:=base) (cap:=cap) hk S (by rw [X,P]) V hg (by rw [N];exact hn) D
  rw [N] at M
  refine ⟨he,d'.toList,Y,?_,M,⟨rfl,rfl,rfl,size_sortWorldK_c enc k W g 0 n d' os,fun b hb=>?_⟩⟩
  ·rw [List.pairwise_iff_getElem]
   intro i j E A U
   simp only [Array.length_toList] at E A
   have o:=K i j (Nat.zero_le _) U (by omega)
   rw [getElem!_pos d' i (by omega),getElem!_pos d' j (by omega)] at o
   simp only [Array.getElem_toList]
   exact of_decide_eq_false o
  ·unfold sortWorldK
   rw [heap_grow_old _ _ (by rw [size_putRowK];exact Nat.lt_of_lt_of_le hb hB)]
   unfold putRowK putRow mapBlock
   simp [Array.getElem?_modify,show ¬ g=b by omega,Sort.ahead]
end
theorem Zw2:∀ a b:List UInt8,decide (Lib.compareBytes a b<0)=ltStr a b
 | [],[]=>by simp [Lib.compareBytes,ltStr]
 | [],_::_=>by simp [Lib.compareBytes,ltStr]
 | _::_,[]=>by simp [Lib.compareBytes,ltStr]
 | x::a,y::b=>by
  have ih:=Zw2 a b
  unfold ltStr at ih |-
  rw [Lib.compareBytes]
  by_cases o:x<y
  ·simp [o,List.cons_lt_cons_iff]
  ·by_cases G:y<x
   ·have:x≠y:=fun e=>by subst e;exact o G
    simp [o,G,List.cons_lt_cons_iff,this]
   ·have:x=y:=UInt8.le_antisymm (UInt8.not_lt.1 G) (UInt8.not_lt.1 o)
    subst this
    simp [o,List.cons_lt_cons_iff,ih]
theorem Jes:SWO (ltOf cfL):=by
 have e:∀ x y,ltOf cfL x y=ltStr x.1.data.toList y.1.data.toList:=fun x y=>Zw2 _ _
 exact ⟨fun x=>by rw [e];exact swo_ltStr.irrefl _,fun x y z o G=>by rw [e] at *;exact swo_ltStr.trans _ _ _ o G,fun x y z o G=>by rw [e] at *;exact swo_ltStr.ntrans _ _ _ o G⟩
end Go.Proofs.YthfilnflgahcjaaGreatDoor

namespace Go.Proofs.YthfilnflgahcjaaGreatDoor
open Go.RowKit Go.Shelf Go.Sort
set_option linter.all false
section
variable {α:Type} [Inhabited α] {e k:Nat} {enc:α->List Value}
theorem Zfr (hk:∀ x,(enc x).length=k) (cf:α->α->Int) (O:SWO (ltOf cf)) (f:FuncId) (c:Value)
  (r:∀ W,Calls Tryz.prog f #[.slice none 0 0,c] W fun e w'=>e=.returned (.tuple #[])/\w'=W)
  (p:∀ (W:World) (g cap:Nat) (d:Array α),HoldsK enc k W g 0 d->d.size<=1000000->g<W.heap.size->Calls Tryz.prog f #[.slice (some ⟨g,0,none⟩) d.size cap,c] W fun e w'=>e=.returned (.tuple #[])/\∃ m n os,PermIn 0 d.size d m/\SortedIn (ltOf cf) 0 d.size m/\w'=sortWorldK enc k W g 0 n m os)
  (W:World) (v:Value) (base:Nat) (xs:List α) (hB:base<=W.heap.size) (hl:xs.length<=1000000) (h:Jb e k enc base W v xs) :
  Calls Tryz.prog f #[v,c] W fun y w'=>y=.returned (.tuple #[])/\∃ A,A.Perm xs/\A.Pairwise (fun a b=>¬ cf b a<0)/\Jb e k enc base w' v A/\Below base W w':=by
 obtain ⟨Q,⟨rfl,hn⟩ | ⟨g,cap,P,rfl,hg,D,hn,K,N,ht⟩⟩:=h
 ·have:xs=[]:=List.eq_nil_of_length_eq_zero hn
  subst this
  refine (r W).mono ?_
  rintro y w' ⟨he,rfl⟩
  exact ⟨he,[],List.Perm.refl _,List.Pairwise.nil,Jo _ _ _ _ _,Below.refl _ _⟩
 ·have w:=(Array.getElem?_eq_some_iff.1 D).1
  have G:=Zjm (cap:=cap) hk D ht
  have t:=p W g cap xs.toArray G (by simpa using hl) w
  rw [show xs.toArray.size=xs.length by simp] at t
  refine t.mono ?_
  rintro y w' ⟨he,m,n,os,l,q,rfl⟩
  rw [show xs.length=xs.toArray.size by simp] at l q
  have o:m.size=xs.toArray.size:=l.1
  have F:m.toList.Perm xs:=by
   have:=l.2.2
   rw [<- o,Array.extract_size] at this
   rw [o] at this
   simpa using this
  have C:=holdsK_sortWorldK_c enc k W g 0 xs.toArray m n os G w o
  obtain ⟨I,z,E⟩:=Zmn (e:=e) (enc:=enc) (k:=k) (n:=n) (d:=m) (os:=os) D
  have u:m.size=xs.length:=by rw [o];simp
  have s:=Zjn (base:=base) (cap:=cap) hk z (by rw [E,N]) C hg (by rw [u];exact hn) K
  rw [u] at s
  refine ⟨he,m.toList,F,?_,s,⟨rfl,rfl,rfl,size_sortWorldK_c enc k W g 0 n m os,fun b hb=>?_⟩⟩
  ·rw [List.pairwise_iff_getElem]
   intro i j L M B
   simp only [Array.length_toList] at L M
   have H:=q i j (Nat.zero_le _) B (by omega)
   rw [getElem!_pos m i (by omega),getElem!_pos m j (by omega)] at H
   simp only [Array.getElem_toList]
   exact of_decide_eq_false H
  ·unfold sortWorldK
   rw [heap_grow_old _ _ (by rw [size_putRowK];exact Nat.lt_of_lt_of_le hb hB)]
   unfold putRowK putRow mapBlock
   simp [Array.getElem?_modify,show ¬ g=b by omega,Sort.ahead]
end
end Go.Proofs.YthfilnflgahcjaaGreatDoor

namespace Go.Proofs
open Go.Shelf
def Tryz.laysIns84_ren:Go.Shelf.Ren:=⟨fun | 20=>171 | n=>n,fun | 22=>28 | 24=>42 | 25=>138 | n=>n,fun | n=>n⟩
theorem Tryz.laysIns84:Go.Proofs.SlLaysF0.n20 Tryz.prog Tryz.laysIns84_ren:={
 mixed:=by kernel_rfl
 f20:=⟨Tryz.f171.name,by decide,Tryz.func171.trans (congrArg some (by kernel_rfl))⟩
 t0:=Tryz.underlying0
 a0:=Tryz.isAgg0
 z0:=Tryz.sizeOf0
 v0:=Tryz.zeroValue0
 t3:=Tryz.underlying3
 a3:=Tryz.isAgg3
 z3:=Tryz.sizeOf3
 v3:=Tryz.zeroValue3
 t4:=Tryz.underlying4
 a4:=Tryz.isAgg4
 z4:=Tryz.sizeOf4
 v4:=Tryz.zeroValue4
 t22:=Tryz.underlying28
 a22:=Tryz.isAgg28
 z22:=Tryz.sizeOf28
 v22:=Tryz.zeroValue28
 t25:=Tryz.underlying138
 a25:=Tryz.isAgg138
 z25:=Tryz.sizeOf138
 v25:=Tryz.zeroValue138 }
end Go.Proofs
namespace Go.Proofs.YthfilnflgahcjaaGreatDoor
open Go.RowKit Go.Shelf Go.Sort
set_option linter.all false
attribute [local go_sem] Oper.semAt_some
theorem Jah (x:ByteArray × Int):(Za0 x).length=2:=rfl
theorem Jch (x:ByteArray × Int):∀ v ∈ Za0 x,v.oneCell'=true:=by
 intro v z
 simp only [Za0,List.mem_cons,List.not_mem_nil,or_false] at z
 rcases z with rfl | rfl<;>rfl
set_option maxRecDepth 100000 in
set_option maxHeartbeats 4000000 in
theorem Zrl (v f:Value) (n:Nat) (D:(n:Int)<=12) (l:Int) (w:World) (Q:World->Prop) (h:Calls Tryz.prog 171 #[v,.int .i64 0,.int .i64 n,f] w fun e w'=>e=.returned (.tuple #[])/\Q w'):Calls Tryz.prog 146 #[v,.int .i64 0,.int .i64 n,.int .i64 l,f] w fun e w'=>e=.returned (.tuple #[])/\Q w':=by
 have t:∀ W:World,(binOp .sub 3 (.int .i64 (n:Int)) (.int .i64 0)).run Tryz.prog W=.ok (.int .i64 (n:Int)) W:=fun W=>by
  have u:IntKind.i64.wrap (n:Int)=n:=by rw [IntKind.wrap_i64];omega
  simp [binOp,go_sem,u]
 have s:=Za h
 clear h
 go_enter Tryz.func146,Tryz.ntmps146
 go_wp2_with fail
 go_loopw [1,2] (fun i j wr=>i=.int .i64 0/\j=.int .i64 (n:Int)/\wr=w) (fun _ _ _=>0)
 case atStart=>exact ⟨rfl,rfl,rfl⟩
 case round =>
  obtain ⟨rfl,rfl,o⟩:=hrel
  rw [o]
  clear o
  go_wp2_with fail
  refine s.out.mono ?_
  rintro e w2 ⟨rfl,k⟩
  have q:=Za k
  clear k
  go_wp2_with fail
  exact bodyPost_ret (v:=.tuple #[]) (by simp [results,Tryz.results146,go_sem]) rfl ⟨rfl,q.out⟩
set_option maxRecDepth 100000 in
set_option maxHeartbeats 4000000 in
theorem Zf6 (a:Option Addr) (n c:Nat) (f:Value) (hn:n<=12) (w:World) (Q:World->Prop) (h:Calls Tryz.prog 171 #[.slice a n c,.int .i64 0,.int .i64 n,f] w fun e w'=>e=.returned (.tuple #[])/\Q w'):Calls Tryz.prog 121 #[.slice a n c,f] w fun e w'=>e=.returned (.tuple #[])/\Q w':=by
 have A:=Za (Tryz.bits_Len (n:Int) w (by omega) (by omega))
 have s:=Za (fun l=>Zrl (.slice a n c) f n (by omega) l w Q h)
 generalize (Lib.bitLen (n:Int).toNat:Int)=l at A
 have u:IntKind.u64.wrap (n:Int)=n:=by rw [IntKind.wrap_u64];omega
 clear hn h
 go_enter Tryz.func121,Tryz.ntmps121
 go_wp2_with fail
 refine A.out.mono ?_
 rintro e w2 ⟨rfl,p⟩
 rw [p]
 clear p
 go_wp2_with fail
 refine (s.out _).mono ?_
 rintro e F ⟨rfl,k⟩
 have q:=Za k
 clear k
 go_wp2_with fail
 exact bodyPost_end (v:=.tuple #[]) (by simp [results,Tryz.results121,go_sem]) rfl ⟨rfl,q.out⟩
set_option maxRecDepth 100000 in
set_option maxHeartbeats 4000000 in
theorem Zmq (f:Value) (w:World):Calls Tryz.prog 171 #[.slice none 0 0,.int .i64 0,.int .i64 (0:Nat),f] w fun e w'=>e=.returned (.tuple #[])/\w'=w:=by
 go_enter Tryz.func171,Tryz.ntmps171
 go_wp2_with fail
 go_loopw [8] (fun i wr=>i=.int .i64 1/\wr=w) (fun _ _=>0)
 case atStart=>exact ⟨rfl,rfl⟩
 case round =>
  obtain ⟨rfl,rfl⟩:=hrel
  go_wp2_with fail
  exact bodyPost_end (v:=.tuple #[]) (by simp [results,Tryz.results171,go_sem]) rfl ⟨rfl,rfl⟩
theorem Zu5:∀ (W:World) (v:Value) (base:Nat) (xs:List (ByteArray × Int)),base<=W.heap.size->xs.length<=12->Jb 42 2 Za0 base W v xs->Calls Tryz.prog 121 #[v,.func (.func 85) #[] #[]] W fun e w'=>e=.returned (.tuple #[])/\∃ r,r.Perm xs/\r.Pairwise (fun a b=>¬ cfL b a<0)/\Jb 42 2 Za0 base w' v r/\Below base W w' :=
 fun W v base xs hB hl h=>Ze4 (fun x=>Jah x) cfL Jes 121 (.func (.func 85) #[] #[]) (fun W=>Zf6 none 0 0 _ (by omega) W _ (Zmq _ W)) (fun W g cap d C B hg=>Zf6 _ _ _ _ B W _ (AnyQ.insertionSortCmpFunc Tryz.laysIns84 2 (fun w=>Tryz.isAgg42 w) (fun w=>Tryz.sizeOf42 w) Za0 Jah Jch cfL 85 #[] g 0 cap 0 d.size d W (fun args w=>enters_of Tryz.func85 (by kernel_rfl) rfl args w) (fun m os E _ x y=>Zpc x y _) C hg (Nat.zero_le _) (Nat.le_refl _) (by omega))) W v base xs hB hl h
end Go.Proofs.YthfilnflgahcjaaGreatDoor

namespace Go.Proofs
open Go.Shelf
def Tryz.laysIns88_ren:Go.Shelf.Ren:=⟨fun | 20=>181 | n=>n,fun | 22=>29 | 24=>62 | 25=>142 | n=>n,fun | n=>n⟩
theorem Tryz.laysIns88:Go.Proofs.SlLaysF0.n20 Tryz.prog Tryz.laysIns88_ren:={
 mixed:=by kernel_rfl
 f20:=⟨Tryz.f181.name,by decide,Tryz.func181.trans (congrArg some (by kernel_rfl))⟩
 t0:=Tryz.underlying0
 a0:=Tryz.isAgg0
 z0:=Tryz.sizeOf0
 v0:=Tryz.zeroValue0
 t3:=Tryz.underlying3
 a3:=Tryz.isAgg3
 z3:=Tryz.sizeOf3
 v3:=Tryz.zeroValue3
 t4:=Tryz.underlying4
 a4:=Tryz.isAgg4
 z4:=Tryz.sizeOf4
 v4:=Tryz.zeroValue4
 t22:=Tryz.underlying29
 a22:=Tryz.isAgg29
 z22:=Tryz.sizeOf29
 v22:=Tryz.zeroValue29
 t25:=Tryz.underlying142
 a25:=Tryz.isAgg142
 z25:=Tryz.sizeOf142
 v25:=Tryz.zeroValue142 }
end Go.Proofs
namespace Go.Proofs.YthfilnflgahcjaaGreatDoor
open Go.RowKit Go.Shelf Go.Sort
set_option linter.all false
attribute [local go_sem] Oper.semAt_some
theorem Jav (x:ByteArray × Int):(Za0 x).length=2:=rfl
theorem Jcn (x:ByteArray × Int):∀ v ∈ Za0 x,v.oneCell'=true:=by
 intro v z
 simp only [Za0,List.mem_cons,List.not_mem_nil,or_false] at z
 rcases z with rfl | rfl<;>rfl
set_option maxRecDepth 100000 in
set_option maxHeartbeats 4000000 in
theorem Zrt (v f:Value) (n:Nat) (D:(n:Int)<=12) (l:Int) (w:World) (Q:World->Prop) (h:Calls Tryz.prog 181 #[v,.int .i64 0,.int .i64 n,f] w fun e w'=>e=.returned (.tuple #[])/\Q w'):Calls Tryz.prog 149 #[v,.int .i64 0,.int .i64 n,.int .i64 l,f] w fun e w'=>e=.returned (.tuple #[])/\Q w':=by
 have t:∀ W:World,(binOp .sub 3 (.int .i64 (n:Int)) (.int .i64 0)).run Tryz.prog W=.ok (.int .i64 (n:Int)) W:=fun W=>by
  have u:IntKind.i64.wrap (n:Int)=n:=by rw [IntKind.wrap_i64];omega
  simp [binOp,go_sem,u]
 have s:=Za h
 clear h
 go_enter Tryz.func149,Tryz.ntmps149
 go_wp2_with fail
 go_loopw [1,2] (fun i j wr=>i=.int .i64 0/\j=.int .i64 (n:Int)/\wr=w) (fun _ _ _=>0)
 case atStart=>exact ⟨rfl,rfl,rfl⟩
 case round =>
  obtain ⟨rfl,rfl,o⟩:=hrel
  rw [o]
  clear o
  go_wp2_with fail
  refine s.out.mono ?_
  rintro e w2 ⟨rfl,k⟩
  have q:=Za k
  clear k
  go_wp2_with fail
  exact bodyPost_ret (v:=.tuple #[]) (by simp [results,Tryz.results149,go_sem]) rfl ⟨rfl,q.out⟩
set_option maxRecDepth 100000 in
set_option maxHeartbeats 4000000 in
theorem Zf8 (a:Option Addr) (n c:Nat) (f:Value) (hn:n<=12) (w:World) (Q:World->Prop) (h:Calls Tryz.prog 181 #[.slice a n c,.int .i64 0,.int .i64 n,f] w fun e w'=>e=.returned (.tuple #[])/\Q w'):Calls Tryz.prog 123 #[.slice a n c,f] w fun e w'=>e=.returned (.tuple #[])/\Q w':=by
 have A:=Za (Tryz.bits_Len (n:Int) w (by omega) (by omega))
 have s:=Za (fun l=>Zrt (.slice a n c) f n (by omega) l w Q h)
 generalize (Lib.bitLen (n:Int).toNat:Int)=l at A
 have u:IntKind.u64.wrap (n:Int)=n:=by rw [IntKind.wrap_u64];omega
 clear hn h
 go_enter Tryz.func123,Tryz.ntmps123
 go_wp2_with fail
 refine A.out.mono ?_
 rintro e w2 ⟨rfl,p⟩
 rw [p]
 clear p
 go_wp2_with fail
 refine (s.out _).mono ?_
 rintro e F ⟨rfl,k⟩
 have q:=Za k
 clear k
 go_wp2_with fail
 exact bodyPost_end (v:=.tuple #[]) (by simp [results,Tryz.results123,go_sem]) rfl ⟨rfl,q.out⟩
set_option maxRecDepth 100000 in
set_option maxHeartbeats 4000000 in
theorem Zmw (f:Value) (w:World):Calls Tryz.prog 181 #[.slice none 0 0,.int .i64 0,.int .i64 (0:Nat),f] w fun e w'=>e=.returned (.tuple #[])/\w'=w:=by
 go_enter Tryz.func181,Tryz.ntmps181
 go_wp2_with fail
 go_loopw [8] (fun i wr=>i=.int .i64 1/\wr=w) (fun _ _=>0)
 case atStart=>exact ⟨rfl,rfl⟩
 case round =>
  obtain ⟨rfl,rfl⟩:=hrel
  go_wp2_with fail
  exact bodyPost_end (v:=.tuple #[]) (by simp [results,Tryz.results181,go_sem]) rfl ⟨rfl,rfl⟩
theorem Zvd:∀ (W:World) (v:Value) (base:Nat) (xs:List (ByteArray × Int)),base<=W.heap.size->xs.length<=12->Jb 62 2 Za0 base W v xs->Calls Tryz.prog 123 #[v,.func (.func 89) #[] #[]] W fun e w'=>e=.returned (.tuple #[])/\∃ r,r.Perm xs/\r.Pairwise (fun a b=>¬ cfL b a<0)/\Jb 62 2 Za0 base w' v r/\Below base W w' :=
 fun W v base xs hB hl h=>Ze4 (fun x=>Jav x) cfL Jes 123 (.func (.func 89) #[] #[]) (fun W=>Zf8 none 0 0 _ (by omega) W _ (Zmw _ W)) (fun W g cap d C B hg=>Zf8 _ _ _ _ B W _ (AnyQ.insertionSortCmpFunc Tryz.laysIns88 2 (fun w=>Tryz.isAgg62 w) (fun w=>Tryz.sizeOf62 w) Za0 Jav Jcn cfL 89 #[] g 0 cap 0 d.size d W (fun args w=>enters_of Tryz.func89 (by kernel_rfl) rfl args w) (fun m os E _ x y=>Zpd x y _) C hg (Nat.zero_le _) (Nat.le_refl _) (by omega))) W v base xs hB hl h
end Go.Proofs.YthfilnflgahcjaaGreatDoor

