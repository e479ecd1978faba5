/- Every small graph that may be is counted. What a graph that may be lends to its counts. Rows in order are one list; counts of things that are moved; how great a small graph's counts are. Where a small graph's counts lie, and how great they are. What StatsSums asks of counts: pure. -/
import Derived.Test.YthfilnflgahcjaaGreatDoorJoin28
import Derived.Test.YthfilnflgahcjaaGreatDoorJoin14
import Derived.Test.YthfilnflgahcjaaGreatDoorJoin31
import Derived.Test.YthfilnflgahcjaaGreatDoorJoin26
import Derived.Test.YthfilnflgahcjaaGreatDoorJoin7
import Derived.Test.YthfilnflgahcjaaGreatDoorJoin5
import Derived.Test.YthfilnflgahcjaaGreatDoorJoin6
namespace Go.Proofs.YthfilnflgahcjaaGreatDoor
open Go.RowKit Go.Shelf
set_option linter.all false
def txG (T:Zd):ByteArray:=⟨(Jk T).toArray⟩
theorem Zr8 (g:Zx) (v:Value) (B:Nat) (w:World) (hB:B<=w.heap.size) (z:Zyf w) (h:Zp B w v g) (l:Zao g=true) (q:-9223372036854775808<=g.nn/\g.nn<=9223372036854775807) (y:-9223372036854775808<=g.nr/\g.nr<=9223372036854775807) (t:Zaz g=true)
  (f:∀ n ∈ g.nodes,(n.labels.length:Int)<=Zv n.labels+1) (o:∀ r ∈ g.rels,W64 r.fr/\W64 r.tt) (x:(g.nodes.map Zj.id).Nodup) (hid:∀ n ∈ g.nodes,W64 n.id)
  (j:∀ n ∈ g.nodes,∀ p ∈ n.props,Zc3 p.2) (i:∀ n ∈ g.nodes,∀ p ∈ n.props,Zbg p.2=0) :
  Calls Tryz.prog 11 #[v] w fun e w'=>∃ s vl vt ve vk,e=.returned (.tuple #[Za4 s vl vt ve vk,.int .i64 0])/\Zk7 txG g (fun a b=>¬ cfL b a<0) (fun a b=>¬ cfL b a<0) (fun a b=>¬ cfE b a<0) (fun a b=>¬ cfK b a<0) s/\Zzl w.heap.size w' vl vt ve vk s/\Below w.heap.size w w':=by
 refine Zmt (most:=900000) (fun W v base xs c k d=>Zq1 W v base xs c (by omega) d) (fun W v base xs c k d=>Zq2 W v base xs c (by omega) d) (fun W v base xs c k d=>Zq3 W v base xs c (by omega) d) (fun W v base xs c k d=>Zq4 W v base xs c (by omega) d) (by omega) txG 3000 g v B w hB z.e h (Zi2 l) q y (Zqo txG l f o x hid) t ?_
 intro n hn p m
 have ht:=((Zbf l hn).2.2.2 p m).2
 have hr:=j n hn p m
 refine ⟨?_,fun W u hb hl=>?_⟩
 ·have c:=Zlc p.2 hr
  have k:(txG p.2).size=(Jk p.2).length:=by simp [txG,ByteArray.size]
  unfold okS maxLen
  omega
 ·exact Zxp p.2 (i n hn p m) hr (by omega) (Zf0 ht) B u W (Nat.le_trans hB hb.size) hl (z.below hb)
end Go.Proofs.YthfilnflgahcjaaGreatDoor

namespace Go.Proofs.YthfilnflgahcjaaGreatDoor
open Go.RowKit Go.Shelf
set_option linter.all false
theorem Zqw:∀ {ks:List ByteArray} {l:ByteArray},nrB l ks=true->(ks.length:Int)<=Zv ks
 | [],_,_=>by simp [Zv]
 | x::r,l,h=>by
  simp only [nrB,Bool.and_eq_true] at h
  obtain ⟨i,_,m⟩:=h
  have t:=Zqw m
  simp only [Zfs,Bool.and_eq_true,decide_eq_true_eq] at i
  have A:x.data.toList.length=x.size:=rfl
  rw [Ze6,List.length_cons]
  omega
theorem Zfj:∀ {ns:List Zj},Zbu ns=true->∀ n ∈ ns,(n.labels.length:Int)<=Zv n.labels
 | x::r,h,n,hn=>by
  simp only [Zbu,Bool.and_eq_true] at h
  rcases List.mem_cons.1 hn with rfl | hn
  ·exact Zqw h.1
  ·exact Zfj h.2 n hn
theorem Zjx:∀ {u:List (ByteArray × Zd)},Zhf u=true->∀ q ∈ u,Zbg q.2=0
 | x::r,h,q,c=>by
  simp only [Zhf,Bool.and_eq_true,decide_eq_true_eq] at h
  rcases List.mem_cons.1 c with rfl | c
  ·exact h.1.1
  ·exact Zjx h.2 q c
theorem Zdx:∀ {ns:List Zj},Jv ns=true->∀ n ∈ ns,∀ q ∈ n.props,Zbg q.2=0
 | x::r,h,n,hn,q,c=>by
  simp only [Jv,Zlg,Bool.and_eq_true] at h
  rcases List.mem_cons.1 hn with rfl | hn
  ·exact Zjx h.1.1 q c
  ·exact Zdx h.2 n hn q c
theorem Zy2 (g:Zx) (v:Value) (B:Nat) (w:World) (hB:B<=w.heap.size) (y:Zyf w) (h:Zp B w v g) (z:Zao g=true) (k:-9223372036854775808<=g.nn/\g.nn<=9223372036854775807) (o:-9223372036854775808<=g.nr/\g.nr<=9223372036854775807) (f:Zaz g=true)
  (j:∀ r ∈ g.rels,W64 r.fr/\W64 r.tt) (hid:∀ n ∈ g.nodes,W64 n.id) (d:∀ n ∈ g.nodes,∀ p ∈ n.props,Zc3 p.2) :
  Calls Tryz.prog 11 #[v] w fun e w'=>∃ s vl vt ve vk,e=.returned (.tuple #[Za4 s vl vt ve vk,.int .i64 0])/\Zk7 txG g (fun a b=>¬ cfL b a<0) (fun a b=>¬ cfL b a<0) (fun a b=>¬ cfE b a<0) (fun a b=>¬ cfK b a<0) s/\Zzl w.heap.size w' vl vt ve vk s/\Below w.heap.size w w':=by
 have hk:=f
 simp only [Zaz,Bool.and_eq_true] at hk
 obtain ⟨_,⟨i,_⟩,m,⟨t,_⟩,_⟩:=hk
 exact Zr8 g v B w hB y h z k o f (fun n hn=>by have:=Zfj m n hn;omega) j (Zh9 i).2 hid d (Zdx t)
end Go.Proofs.YthfilnflgahcjaaGreatDoor

namespace Go.Proofs.YthfilnflgahcjaaGreatDoor
open Go.RowKit Go.Shelf
set_option linter.all false
theorem Zuk:∀ {a b:List UInt8},Lib.compareBytes a b=0->a=b
 | [],[],_=>rfl
 | [],_::_,h=>by simp [Lib.compareBytes] at h
 | _::_,[],h=>by simp [Lib.compareBytes] at h
 | a::r,b::t,h=>by
  rw [Cm.cmpB_eq] at h
  split at h
  ·rename_i h0
   have e:a.toNat=b.toNat:=by
    unfold Cm.cmpI at h0
    split at h0
    ·omega
    ·split at h0
     ·omega
     ·omega
   rw [UInt8.toNat_inj.1 e,Zuk h]
  ·rename_i h0;exact absurd h h0
theorem Zdy {a b:ByteArray} (h:Zc5 a b=0):a=b:=by
 have e:=Zuk h
 cases a;cases b
 simp only [ByteArray.mk.injEq] at e |-
 exact Array.toList_inj.1 e
theorem Jb7 {a b:Zae} (h:cfE a b=0):(a.1,a.2.1,a.2.2.1)=(b.1,b.2.1,b.2.2.1):=by
 simp only [cfE,orI] at h
 split at h
 ·rename_i h1
  split at h
  ·rename_i h2
   split at h
   ·rename_i h3
    have j:a.2.2.1=b.2.2.1:=by
     unfold Zkd at h3
     split at h3
     ·assumption
     ·split at h3<;>omega
    rw [Zdy h1,Zdy h2,j]
   ·rename_i h3;exact absurd h h3
  ·rename_i h2;exact absurd h h2
 ·rename_i h1;exact absurd h h1
theorem Jb8 {a b:Zav} (h:cfK a b=0):(a.1,a.2.1)=(b.1,b.2.1):=by
 simp only [cfK,orI] at h
 split at h
 ·rename_i h1
  split at h
  ·rename_i h2
   rw [Zdy h1,Zdy h2]
  ·rename_i h2;exact absurd h h2
 ·rename_i h1;exact absurd h h1
theorem Zis (ts:List ByteArray):Zaf ts=Jc (ts.map fun t=>((t,(0:Int)),(1:Int))):=by
 unfold Zaf Jc
 rw [List.foldl_map]
theorem Zdh {ts:List ByteArray} {p:(ByteArray × Int) × Int} (d:p ∈ Zaf ts):p.1.2=0/\p.1.1 ∈ ts:=by
 have h:p.1 ∈ (Zaf ts).map Prod.fst:=List.mem_map_of_mem d
 rw [Zis,Zbc,List.map_map] at h
 obtain ⟨t,ht,e⟩:=List.mem_map.1 h
 have e:(t,(0:Int))=p.1:=e
 rw [<- e];exact ⟨rfl,ht⟩
theorem Zkn {ns:List Zj} {i:List (Zba × Int)} {p:Zae × Int} (d:p ∈ Jc (Jn ns i)):∃ q ∈ i,p.1.1=q.1.2.1/\p.1.2.1 ∈ Zt ns q.1.1/\p.1.2.2.1=q.1.2.2/\p.1.2.2.2=0:=by
 have h:p.1 ∈ (Jc (Jn ns i)).map Prod.fst:=List.mem_map_of_mem d
 rw [Zbc] at h
 obtain ⟨y,f,e⟩:=List.mem_map.1 h
 obtain ⟨q,k,f⟩:=List.mem_flatMap.1 f
 obtain ⟨l,hl,rfl⟩:=List.mem_map.1 f
 rw [<- e]
 exact ⟨q,k,rfl,hl,rfl,rfl⟩
theorem Zko {g:List Zhl} {p:Zav × Int} (d:p ∈ Zds g):∃ x ∈ g,p.1=x.1:=by
 have h:p.1 ∈ (Zds g).map Prod.fst:=List.mem_map_of_mem d
 unfold Zds at h
 rw [Zbc,List.map_map] at h
 obtain ⟨y,f,e⟩:=List.mem_map.1 h
 have c:y.1 ∈ (cnt g).map Prod.fst:=List.mem_map_of_mem f
 rw [Zdb] at c
 exact ⟨y.1,c,e.symm⟩
end Go.Proofs.YthfilnflgahcjaaGreatDoor

namespace Go.Proofs.YthfilnflgahcjaaGreatDoor
open Go.RowKit Go.Shelf
set_option linter.all false
theorem Jfa {n:Int} (h:-9223372036854775808<=n/\n<=9223372036854775807):W64 n:=w64 h.1 h.2
theorem Jag (d:List Zen):∀ x ∈ (Zci d).2,∃ it ∈ d,x.1.1 ∈ it.1/\x.1.2.1=it.2.1:=by
 suffices h:∀ (d:List Zen) (s:List ByteArray × List Zhl),∀ x ∈ (d.foldl Zgi s).2,x ∈ s.2\/∃ it ∈ d,x.1.1 ∈ it.1/\x.1.2.1=it.2.1 by
  intro x b
  rcases h d ([],[]) x b with h | h
  ·simp at h
  ·exact h
 intro d
 induction d with
 | nil=>intro s x b;exact .inl b
 | cons i r ih =>
  intro s x b
  rw [List.foldl_cons] at b
  rcases ih _ x b with h | ⟨it,S,R⟩
  ·unfold Zgi at h
   simp only [List.mem_append,List.mem_map] at h
   rcases h with h | ⟨l,hl,rfl⟩
   ·exact .inl h
   ·exact .inr ⟨i,List.mem_cons_self,hl,rfl⟩
  ·exact .inr ⟨it,List.mem_cons_of_mem _ S,R⟩
structure Jfb (s:Zak):Prop where
 w:Jhr s
 l:s.labels.length<=3000
 t:s.types.length<=60
 e:s.ends.length<=900000
 k:s.keys.length<=900000
theorem Zu4 {g:Zx} {s:Zak} {L M:ByteArray × Int->ByteArray × Int->Prop} {K:Zae->Zae->Prop} {N:Zav->Zav->Prop} (F:Zao g=true) (G:Zpt txG g 900000 3000) (m:Zk7 txG g L M K N s):Jfb s:=by
 obtain ⟨W,Y⟩:=Za6 F
 have h3:=Zf2 Zeg g.nodes
 have h4:=Zf2 (fun x=>Int.le_trans (by omega) (Zh4 x)) g.rels
 have hL:=Zkj g.nodes
 have j:∀ n ∈ g.nodes,∀ l ∈ n.labels,l.size<=3000:=fun n hn=>(Zbf F hn).2.1
 have E:∀ n ∈ g.nodes,∀ q ∈ n.props,q.1.size<=3000:=fun n hn q D=>((Zbf F hn).2.2.2 q D).1
 have u:∀ r ∈ g.rels,r.type.size<=3000:=fun r hr=>(Zf1 F hr).1
 have v:∀ {n:Int},0<=n->n<=9000000000000000000->W64 n:=fun S R=>Jfa ⟨by omega,by omega⟩
 have a0:(Zi g.nodes).length<=3000:=by omega
 refine ⟨⟨by rw [m.n];exact v (by omega) (by omega),by rw [m.r];exact v (by omega) (by omega),?_,?_,?_,?_⟩,?_,?_,?_,?_⟩
 ·intro x b
  obtain ⟨p,f,rfl⟩:=List.mem_map.1 (m.l1.mem_iff.1 b)
  obtain ⟨_,O⟩:=Zdh f
  obtain ⟨n,hn,hl⟩:=List.mem_flatMap.1 O
  have A:=((Zbe (Zcx _)).1 (show (p.1,p.2) ∈ Zaf (Zi g.nodes) from f)).2
  have C:=Zfm (Zi g.nodes) p.1
  exact ⟨j n hn _ hl,v (by simp only;omega) (by simp only;omega)⟩
 ·intro x b
  obtain ⟨p,f,rfl⟩:=List.mem_map.1 (m.t1.mem_iff.1 b)
  obtain ⟨_,O⟩:=Zdh f
  obtain ⟨r,hr,e⟩:=List.mem_map.1 O
  have A:=((Zbe (Zcx _)).1 (show (p.1,p.2) ∈ Zaf (g.rels.map fun r=>r.type) from f)).2
  have C:=Zfm (g.rels.map fun r=>r.type) p.1
  rw [List.length_map] at C
  refine ⟨?_,v (by simp only;omega) (by simp only;omega)⟩
  simp only
  rw [<- e];exact u r hr
 ·intro x b
  obtain ⟨p,f,rfl⟩:=List.mem_map.1 (m.e1.mem_iff.1 b)
  obtain ⟨q,D,e1,e2,U,e4⟩:=Zkn f
  have B:q.1 ∈ (cnt (Zl g.rels)).map Prod.fst:=List.mem_map_of_mem D
  rw [Zdb] at B
  obtain ⟨r,hr,B⟩:=List.mem_flatMap.1 B
  obtain ⟨n,hn,_,hl⟩:=Zux e2
  have I:p.1.1.size<=3000:=by
   rw [e1]
   simp only [List.mem_cons,List.not_mem_nil,or_false] at B
   rcases B with e | e<;>rw [e]<;>exact u r hr
  have A:=((Zbe (Jq _)).1 (show (p.1,p.2) ∈ Jc (Jn g.nodes (cnt (Zl g.rels))) from f)).2
  rw [Jf] at A
  have C:=Zez (x:=p.1) (c:=120) (by omega) (l:=Jn g.nodes (cnt (Zl g.rels))) fun y o=>by
   obtain ⟨z,H,o⟩:=List.mem_flatMap.1 o
   obtain ⟨l,_,rfl⟩:=List.mem_map.1 o
   have:=Zh1 (Zl g.rels) z H
   have Q:=Zcb g.rels
   simp only
   omega
  have Q:=Zgo g.nodes 3000 (Zku G.kk) (cnt (Zl g.rels))
  have h10:=Zkt (Zl g.rels)
  have X:=Zcb g.rels
  exact ⟨I,j n hn _ hl,v (by simp only;omega) (by simp only;omega)⟩
 ·intro x b
  obtain ⟨p,f,rfl⟩:=List.mem_map.1 (m.k1.mem_iff.1 b)
  obtain ⟨y,o,e1⟩:=Zko f
  obtain ⟨it,hit,e2,U⟩:=Jag _ y o
  obtain ⟨n,hn,hit⟩:=List.mem_flatMap.1 hit
  obtain ⟨q,D,rfl⟩:=List.mem_map.1 hit
  have V:=G.wl
  have T:=(Zdg (Zq txG g.nodes)).2.2.1
  have P:=Zkt (Zci (Zq txG g.nodes)).2
  have A:=((Zbe (Jq _)).1 (show (p.1,p.2) ∈ Zds (Zci (Zq txG g.nodes)).2 from f)).2
  unfold Zds at A
  rw [Jf] at A
  have C:=Zez (x:=p.1) (c:=100000000) (by omega) (l:=(cnt (Zci (Zq txG g.nodes)).2).map fun p=>(p.1.1,p.2)) fun y o=>by
   obtain ⟨z,H,rfl⟩:=List.mem_map.1 o
   have:=Zh1 _ z H
   simp only
   omega
  have Q:=Zez (x:=p.1) (c:=1) (by omega) (l:=(cnt (Zci (Zq txG g.nodes)).2).map fun p=>(p.1.1,(1:Int))) fun y o=>by
   obtain ⟨z,H,rfl⟩:=List.mem_map.1 o
   simp only
   omega
  rw [List.length_map] at C Q
  refine ⟨?_,?_,v ?_ ?_,v ?_ ?_⟩
  ·show p.1.1.size<=3000
   rw [e1];exact j n hn _ e2
  ·show p.1.2.1.size<=3000
   rw [e1,U];exact E n hn q D
  ·show 0<=p.2;omega
  ·show p.2<=_;omega
  ·show 0<=Zn p.1 (Zbv _);unfold Zbv;rw [Jf];omega
  ·show Zn p.1 (Zbv _)<=_;unfold Zbv;rw [Jf];omega
 ·have:=m.l1.length_eq
  have P:=Ziv (Zi g.nodes)
  rw [List.length_map] at this;omega
 ·have:=m.t1.length_eq
  have P:=Ziv (g.rels.map fun r=>r.type)
  rw [List.length_map] at this P;omega
 ·have:=m.e1.length_eq
  rw [List.length_map] at this;have:=G.ce;omega
 ·have:=m.k1.length_eq
  unfold Zom at this
  rw [List.length_map] at this;have:=G.ck;omega
theorem Zib {base:Nat} {w:World} {vl vt ve vk:Value} {s:Zak} (hb:Jfb s) (h:Zzl base w vl vt ve vk s):Zc0 w.heap.size w vl vt ve vk s:=by
 have ok:∀ {x:ByteArray},x.size<=3000->okS x:=fun h=>Nat.le_trans h (by decide)
 exact ⟨h.l.srow (fun _=>rfl),h.t.srow (fun _=>rfl),h.e.srow (fun _=>rfl),h.k.srow (fun _=>rfl),fun x b=>ok (hb.w.l x b).1,fun x b=>ok (hb.w.t x b).1,fun x b=>⟨ok (hb.w.e x b).1,ok (hb.w.e x b).2.1,(hb.w.e x b).2.2⟩,fun x b=>⟨ok (hb.w.k x b).1,ok (hb.w.k x b).2.1,(hb.w.k x b).2.2⟩,by have:=hb.l;omega,by have:=hb.t;omega,hb.e,hb.k⟩
end Go.Proofs.YthfilnflgahcjaaGreatDoor

namespace Go.Proofs.YthfilnflgahcjaaGreatDoor
open Go.RowKit Go.Shelf
set_option linter.all false
def Jh {α:Type} (f:α->Int):List α->Int
 | []=>0
 | x::r=>f x+Jh f r
theorem Zkh {α:Type} (f:α->Int):∀ (a b:List α),Jh f (a++b)=Jh f a+Jh f b
 | [],b=>by simp [Jh]
 | x::r,b=>by simp only [List.cons_append,Jh,Zkh f r b];omega
theorem Zaw {α β:Type} (f:β->Int) (g:α->β):∀ (l:List α),Jh f (l.map g)=Jh (fun x=>f (g x)) l
 | []=>rfl
 | x::r=>by simp only [List.map_cons,Jh,Zaw f g r]
theorem Zb0 {α β:Type} (f:β->Int) (g:α->List β):∀ (l:List α),Jh f (l.flatMap g)=Jh (fun x=>Jh f (g x)) l
 | []=>rfl
 | x::r=>by simp only [List.flatMap_cons,Jh,Zkh,Zb0 f g r]
theorem Je {α:Type} {f g:α->Int}:∀ {l:List α},(∀ x ∈ l,f x=g x)->Jh f l=Jh g l
 | [],_=>rfl
 | x::r,h=>by
  simp only [Jh]
  rw [h x List.mem_cons_self,Je fun y W=>h y (List.mem_cons_of_mem _ W)]
theorem Zfe {α:Type} {f g:α->Int}:∀ {l:List α},(∀ x ∈ l,f x<=g x)->Jh f l<=Jh g l
 | [],_=>Int.le_refl _
 | x::r,h=>by
  have D:=h x List.mem_cons_self
  have G:=Zfe fun y W=>h y (List.mem_cons_of_mem _ W)
  simp only [Jh];omega
theorem Zch {α:Type}:∀ (l:List α),Jh (fun _=>0) l=0
 | []=>rfl
 | x::r=>by simp only [Jh,Zch r];rfl
theorem Zdr {α:Type} {f:α->Int} {l:List α} (h:∀ x ∈ l,0<=f x):0<=Jh f l:=by
 have:=Zfe (f:=fun _=>0) (g:=f) (l:=l) h
 rw [Zch] at this;exact this
theorem Zgy {α:Type} (c:Int):∀ (l:List α),Jh (fun _=>c) l=c*l.length
 | []=>by simp [Jh]
 | x::r=>by
  simp only [Jh,Zgy c r,List.length_cons,Int.natCast_add,Int.mul_add]
  omega
theorem Zem {α:Type} {f:α->Int} {c:Int} {l:List α} (h:∀ x ∈ l,f x<=c):Jh f l<=c*l.length:=by
 have:=Zfe (f:=f) (g:=fun _=>c) (l:=l) h
 rw [Zgy] at this;exact this
theorem Zqi {α:Type} {f:α->Int} {l l':List α} (h:l.Perm l'):Jh f l=Jh f l':=by
 induction h with
 | nil=>rfl
 | cons p _ ih=>simp only [Jh,ih]
 | swap p q t=>simp only [Jh];omega
 | trans _ _ a b=>exact a.trans b
theorem Zt3 {α:Type} {f:α->Int}:∀ {l:List α},(∀ x ∈ l,0<=f x)->∀ x ∈ l,f x<=Jh f l
 | y::r,h,x,v=>by
  have O:=h y List.mem_cons_self
  have G:=Zdr fun z Y=>h z (List.mem_cons_of_mem _ Y)
  simp only [Jh]
  rcases List.mem_cons.1 v with rfl | v
  ·omega
  ·have:=Zt3 (fun z Y=>h z (List.mem_cons_of_mem _ Y)) x v
   omega
theorem Zll {α:Type} {f:α->Int} {l:List α} {j:Nat} {x:α} (h:l[j]?=some x):Jh f (l.take (j+1))=Jh f (l.take j)+f x:=by
 rw [List.take_add_one,h,Zkh]
 simp [Jh]
theorem Zil {α β:Type} [DecidableEq β] (g:α->β) (y:β):∀ {l:List α},(l.map g).Nodup->(y ∉ l.map g->Jh (fun x=>if g x=y then 1 else 0) l=0)/\(y ∈ l.map g->Jh (fun x=>if g x=y then 1 else 0) l=1)/\Jh (fun x=>if g x=y then 1 else 0) l<=1
 | [],_=>by simp [Jh]
 | x::r,h=>by
  simp only [List.map_cons,List.nodup_cons] at h
  simp only [Jh,List.map_cons,List.mem_cons]
  obtain ⟨D,G,I⟩:=Zil g y h.2
  by_cases e:g x=y
  ·have hn:y ∉ r.map g:=e▸h.1
   rw [if_pos e,D hn]
   exact ⟨fun h=>absurd (.inl e.symm) h,fun _=>rfl,by omega⟩
  ·rw [if_neg e,Int.zero_add]
   refine ⟨fun h=>D fun m=>h (.inr m),fun h=>G ?_,I⟩
   rcases h with h | h
   ·exact absurd h.symm e
   ·exact h
section
variable {α:Type} [DecidableEq α]
theorem Zlm (f:α->Int) (k:α) (d:Int):∀ (cs:List (α × Int)),Jh (fun p=>p.2*f p.1) (Zcn k d cs)=Jh (fun p=>p.2*f p.1) cs+d*f k
 | []=>by simp [Zcn,Jh]
 | (a,n)::r=>by
  rw [Zcn]
  split
  ·rename_i e
   subst e
   simp only [Jh,Int.add_mul];omega
  ·simp only [Jh,Zlm f k d r];omega
theorem Zln (f:α->Int) (l:List (α × Int)):Jh (fun p=>p.2*f p.1) (Jc l)=Jh (fun p=>p.2*f p.1) l:=by
 unfold Jc
 suffices h:∀ (l cs:List (α × Int)),Jh (fun p=>p.2*f p.1) (l.foldl (fun cs p=>Zcn p.1 p.2 cs) cs)=Jh (fun p=>p.2*f p.1) cs+Jh (fun p=>p.2*f p.1) l by
  have:=h l []
  simpa [Jh] using this
 intro l
 induction l with
 | nil=>intro cs;simp [Jh]
 | cons x r ih =>
  intro cs
  rw [List.foldl_cons,ih,Zlm]
  simp only [Jh];omega
theorem Zki (f:α->Int) (ts:List α):Jh (fun p=>p.2*f p.1) (cnt ts)=Jh f ts:=by
 unfold cnt
 suffices h:∀ (ts:List α) (cs:List (α × Int)),Jh (fun p=>p.2*f p.1) (ts.foldl (fun cs t=>Zcn t 1 cs) cs)=Jh (fun p=>p.2*f p.1) cs+Jh f ts by
  have:=h ts []
  simpa [Jh] using this
 intro l
 induction l with
 | nil=>intro cs;simp [Jh]
 | cons x r ih =>
  intro cs
  rw [List.foldl_cons,ih,Zlm]
  simp only [Jh];omega
theorem Zcv (x:α):∀ (l:List (α × Int)),Zg7 x l=Jh (fun p=>p.2*(if p.1=x then 1 else 0)) l
 | []=>rfl
 | p::r=>by
  simp only [Zg7,Jh,Zcv x r]
  split<;>simp
end
theorem Jbp {α:Type} {f:α->Int} {l:List α} (h:∀ x ∈ l,0<=f x) {x:α} (v:x ∈ l) (D:1<=f x):1<=Jh f l:=by
 have:=Zt3 h x v
 omega
section
variable {α:Type} [DecidableEq α]
theorem Zoj {k:α} {d:Int} (hd:1<=d):∀ {cs:List (α × Int)},(∀ p ∈ cs,1<=p.2)->∀ p ∈ Zcn k d cs,1<=p.2
 | [],_,p,u=>by
  simp only [Zcn,List.mem_singleton] at u
  subst u;exact hd
 | (a,n)::r,h,p,u=>by
  have O:=h (a,n) List.mem_cons_self
  rw [Zcn] at u
  split at u
  ·rcases List.mem_cons.1 u with rfl | u
   ·simp only at O |-;omega
   ·exact h p (List.mem_cons_of_mem _ u)
  ·rcases List.mem_cons.1 u with rfl | u
   ·exact O
   ·exact Zoj hd (fun q E=>h q (List.mem_cons_of_mem _ E)) p u
theorem Zjb {l:List (α × Int)} (h:∀ p ∈ l,1<=p.2):∀ p ∈ Jc l,1<=p.2:=by
 unfold Jc
 suffices g:∀ (l cs:List (α × Int)),(∀ p ∈ l,1<=p.2)->(∀ p ∈ cs,1<=p.2)->∀ p ∈ l.foldl (fun cs p=>Zcn p.1 p.2 cs) cs,1<=p.2 from g l [] h (by simp)
 intro l
 induction l with
 | nil=>intro cs _ C;exact C
 | cons x r ih=>intro cs hl C;exact ih _ (fun p u=>hl p (List.mem_cons_of_mem _ u)) (Zoj (hl x List.mem_cons_self) C)
theorem Zsg (ts:List α):∀ p ∈ cnt ts,1<=p.2:=by
 unfold cnt
 suffices g:∀ (l:List α) (cs:List (α × Int)),(∀ p ∈ cs,1<=p.2)->∀ p ∈ l.foldl (fun cs t=>Zcn t 1 cs) cs,1<=p.2 from g ts [] (by simp)
 intro l
 induction l with
 | nil=>intro cs C;exact C
 | cons x r ih=>intro cs C;exact ih _ (Zoj (by omega) C)
end
theorem Zm3 {n:Int} (h:0<=n) (G:n<=4611686018427387904):Ze2 n=n:=by
 unfold Ze2
 split
 ·omega
 ·split<;>omega
theorem Zgg {R K:Type} [DecidableEq K] {key:R->K}:∀ {A:List R},(A.map key).Nodup->∀ r ∈ A,Zy key A [key r]=([r],[])
 | x::rs,h,r,hr=>by
  simp only [List.map_cons,List.nodup_cons] at h
  rw [Zy,if_neg (by simp)]
  rcases List.mem_cons.1 hr with rfl | hr
  ·rw [if_pos (by simp)]
   have e:Zl8 (key r) [key r]=[]:=by simp [Zl8]
   rw [e,Zcz]
  ·have M:key x≠key r:=fun e=>h.1 (e▸List.mem_map_of_mem hr)
   rw [if_neg (by simpa using M)]
   exact Zgg h.2 r hr
theorem Zjc {R K:Type} [DecidableEq K] {key:R->K} {zero:R} {A:List R} (h:(A.map key).Nodup) {r:R} (hr:r ∈ A):Ji key zero A [key r]=[r]:=by
 unfold Ji
 have e:[key r].foldl Zhs []=[key r]:=by simp [Zhs]
 rw [e,Zgg h r hr]
 rfl
theorem Zsh {R K:Type} [DecidableEq K] {key:R->K} {zero:R} {A:List R} (h:(A.map key).Nodup) {r:R} (hr:r ∈ A):Ji key zero A [key r,key r]=[r]:=by
 unfold Ji
 have e:[key r,key r].foldl Zhs []=[key r]:=by simp [Zhs]
 rw [e,Zgg h r hr]
 rfl
theorem Zok {n:Int} (h:0<=n) (G:n<=4611686018427387904):Zah [n]=n:=by
 unfold Zah
 rw [Zsm,Zsm,Zm3 h G]
 split<;>omega
theorem Zyg {a b:Int} (h:1<=a) (G:a<=4611686018427387904):1<=Zbl a b:=by
 unfold Zbl
 rw [Zm3 (by omega) G]
 have e:∀ m:Int,1<=m->1<=(a+(m - 1)) / m:=fun m hm=>by
  rw [Int.le_ediv_iff_mul_le (by omega)];omega
 split
 ·exact e 1 (by omega)
 ·exact e _ (by omega)
def Zan (t:ByteArray) (ts:List ByteArray):Int:=Jh (fun x=>if x=t then 1 else 0) ts
theorem Zqj {p:Prop} [Decidable p]:(0:Int)<=(if p then 1 else 0):=by split<;>omega
theorem Jcw {p:Prop} [Decidable p]:(if p then 1 else 0)<=(1:Int):=by split<;>omega
theorem Zqk {ts:List ByteArray} {p:(ByteArray × Int) × Int} (u:p ∈ Zaf ts):p.2=Zan p.1.1 ts:=by
 have O:=(Zdh u).1
 have D:=((Zbe (Zcx ts)).1 (show (p.1,p.2) ∈ Zaf ts from u)).2
 rw [<- D,Zis,Jf,Zcv,Zaw]
 unfold Zan
 refine Je fun t _=>?_
 obtain ⟨⟨a,b⟩,n⟩:=p
 simp only at O
 subst O
 simp only [Prod.mk.injEq,and_true,Int.one_mul]
theorem Zyh {ts:List ByteArray} {p:(ByteArray × Int) × Int} (u:p ∈ Zaf ts):1<=p.2:=by
 rw [Zis] at u
 refine Zjb ?_ p u
 intro q E
 obtain ⟨t,_,rfl⟩:=List.mem_map.1 E
 simp
theorem Zyi (ts:List ByteArray):Jh (fun p=>p.2) (Zaf ts)=ts.length:=by
 have h:=Zln (fun _=>1) (ts.map fun t=>((t,(0:Int)),(1:Int)))
 simp only [Int.mul_one] at h
 rw [Zis,h,Zaw,Zgy]
 simp
theorem Zyj {ts:List ByteArray} {t:ByteArray} (h:t ∈ ts):((t,0),Zan t ts) ∈ Zaf ts:=by
 have hk:(t,(0:Int)) ∈ (Zaf ts).map Prod.fst:=by
  rw [Zis,Zbc,List.map_map]
  exact List.mem_map.2 ⟨t,h,rfl⟩
 obtain ⟨p,u,e⟩:=List.mem_map.1 hk
 have:=Zqk u
 obtain ⟨⟨a,b⟩,n⟩:=p
 simp only [Prod.mk.injEq] at e this
 obtain ⟨rfl,rfl⟩:=e
 rw [<- this];exact u
structure Zm4 (xs:List (ByteArray × Int)) (ts:List ByteArray):Prop where
 all:Jh (fun x=>x.2) xs=ts.length
 val:∀ x ∈ xs,x.2=Zan x.1 ts/\1<=x.2/\x.1 ∈ ts
 hit:∀ t ∈ ts,(t,Zan t ts) ∈ xs
 nd:(xs.map Prod.fst).Nodup
 up:xs.Pairwise fun a b=>Zc5 a.1 b.1<0
theorem Zyk {xs:List (ByteArray × Int)} {ts:List ByteArray} (D:xs.Perm ((Zaf ts).map (fun p:(ByteArray × Int) × Int=>(p.1.1,p.2)))) (G:xs.Pairwise (fun a b=>¬ cfL b a<0)) (C:∀ a b,Zc5 b a=- Zc5 a b):Zm4 xs ts:=by
 have nd:(xs.map Prod.fst).Nodup:=by
  rw [(D.map Prod.fst).nodup_iff,List.map_map]
  have I:=Zcx ts
  have e:(Zaf ts).map (Prod.fst ∘ fun p:(ByteArray × Int) × Int=>(p.1.1,p.2))=((Zaf ts).map Prod.fst).map Prod.fst:=by
   rw [List.map_map];rfl
  rw [e]
  refine List.pairwise_map.2 (List.Pairwise.imp_of_mem ?_ I)
  intro a b ha hb M e
  obtain ⟨p,u,rfl⟩:=List.mem_map.1 ha
  obtain ⟨q,E,rfl⟩:=List.mem_map.1 hb
  exact M (Prod.ext e ((Zdh u).1.trans (Zdh E).1.symm))
 refine ⟨?_,fun x v=>?_,fun t ht=>?_,nd,?_⟩
 ·rw [Zqi D,Zaw,<- Zyi]
 ·obtain ⟨p,u,rfl⟩:=List.mem_map.1 (D.mem_iff.1 v)
  exact ⟨Zqk u,Zyh u,(Zdh u).2⟩
 ·exact D.mem_iff.2 (List.mem_map.2 ⟨_,Zyj ht,rfl⟩)
 ·have I:xs.Pairwise fun a b=>a.1≠b.1:=List.pairwise_map.1 nd
  refine (G.and I).imp fun {a b} h=>?_
  have h4:¬ Zc5 b.1 a.1<0:=h.1
  have h5:=C a.1 b.1
  have h6:Zc5 a.1 b.1≠0:=fun e=>h.2 (Zdy e)
  omega
theorem Zm4.first {xs:List (ByteArray × Int)} {ts:List ByteArray} (h:Zm4 xs ts) {x:ByteArray × Int} (v:x ∈ xs) (zero:ByteArray × Int):Ji Prod.fst zero xs [x.1]=[x]/\Ji Prod.fst zero xs [x.1,x.1]=[x]:=⟨Zjc h.nd v,Zsh h.nd v⟩
theorem Zol (t:ByteArray) (ts:List ByteArray):0<=Zan t ts/\Zan t ts<=ts.length:=by
 refine ⟨Zdr fun _ _=>Zqj,?_⟩
 have:=Zem (f:=fun x=>if x=t then (1:Int) else 0) (c:=1) (l:=ts) fun _ _=>Jcw
 simpa [Zan] using this
theorem Zim {t:ByteArray} {ts:List ByteArray} (h:ts.Nodup):(t ∉ ts->Zan t ts=0)/\(t ∈ ts->Zan t ts=1)/\Zan t ts<=1:=by
 have:=Zil id t (l:=ts) (by simpa using h)
 simpa [Zan] using this
theorem Zgh (t:ByteArray) (ns:List Zj):Zan t (Zi ns)=Jh (fun n=>Zan t n.labels) ns:=Zb0 _ _ _
theorem Jbq {ns:List Zj} {rs:List Zbr} {p:Zae × Int} (u:p ∈ Jc (Jn ns (cnt (Zl rs)))) (B:∀ n ∈ ns,n.labels.Nodup):1<=p.2/\p.2<=Zan p.1.1 (rs.map fun r=>r.type)/\p.1.1 ∈ rs.map fun r=>r.type:=by
 have Q:∀ i,(Zt ns i).Nodup:=by
  intro i
  clear u
  induction ns with
  | nil=>exact List.nodup_nil
  | cons n r ih =>
   rw [Zt]
   split
   ·exact B n List.mem_cons_self
   ·exact ih fun m hm=>B m (List.mem_cons_of_mem _ hm)
 refine ⟨?_,?_,?_⟩
 ·refine Zjb ?_ p u
  intro q E
  obtain ⟨j,S,E⟩:=List.mem_flatMap.1 E
  obtain ⟨l,_,rfl⟩:=List.mem_map.1 E
  exact Zsg _ j S
 ·have D:=((Zbe (Jq _)).1 (show (p.1,p.2) ∈ _ from u)).2
  rw [<- D,Jf,Zcv]
  unfold Jn
  rw [Zb0]
  have e:Jh (fun j:Zba × Int=>Jh (fun q:Zae × Int=>q.2*(if q.1=p.1 then 1 else 0)) (Zfu ns j)) (cnt (Zl rs))=Jh (fun j:Zba × Int=>j.2*Jh (fun l=>if ((j.1.2.1,l,j.1.2.2,0):Zae)=p.1 then 1 else 0) (Zt ns j.1.1)) (cnt (Zl rs)):=by
   refine Je fun j _=>?_
   unfold Zfu
   rw [Zaw]
   generalize Zt ns j.1.1=ls
   induction ls with
   | nil=>simp [Jh]
   | cons a r ih=>simp only [Jh,Int.mul_add];rw [ih]
  rw [e,Zki (fun j:Zba=>Jh (fun l=>if ((j.2.1,l,j.2.2,0):Zae)=p.1 then 1 else 0) (Zt ns j.1))]
  unfold Zl Zan
  rw [Zb0,Zaw]
  refine Zfe fun r _=>?_
  have L:∀ (i:Int) (o:Bool),Jh (fun l=>if ((r.type,l,o,0):Zae)=p.1 then (1:Int) else 0) (Zt ns i)<=if r.type=p.1.1/\o=p.1.2.2.1 then 1 else 0:=by
   intro i o
   by_cases C:r.type=p.1.1/\o=p.1.2.2.1
   ·rw [if_pos C]
    have G:=Zil id p.1.2.1 (l:=Zt ns i) (by simpa using Q i)
    refine Int.le_trans (Zfe (g:=fun l=>if id l=p.1.2.1 then 1 else 0) fun l _=>?_) G.2.2
    by_cases hl:((r.type,l,o,0):Zae)=p.1
    ·rw [if_pos hl,if_pos (by rw [<- hl];rfl)];exact Int.le_refl _
    ·rw [if_neg hl];exact Zqj
   ·rw [if_neg C]
    have:Jh (fun l=>if ((r.type,l,o,0):Zae)=p.1 then (1:Int) else 0) (Zt ns i)=Jh (fun _=>0) (Zt ns i):=Je fun l _=>by
     rw [if_neg]
     intro e
     exact C (by rw [<- e];exact ⟨rfl,rfl⟩)
    rw [this,Zch];exact Int.le_refl _
  have T:=L r.fr true
  have U:=L r.tt false
  simp only [Jh]
  by_cases ht:r.type=p.1.1
  ·have N:=eq_true ht
   rw [if_pos ht]
   cases ho:p.1.2.2.1<;>simp only [ho,N,true_and,reduceCtorEq,if_true,if_false] at T U<;>omega
  ·have N:=eq_false ht
   simp only [N,false_and,if_false] at T U
   rw [if_neg ht];omega
 ·obtain ⟨q,E,e1,_⟩:=Zkn u
  have:q.1 ∈ (cnt (Zl rs)).map Prod.fst:=List.mem_map_of_mem E
  rw [Zdb] at this
  obtain ⟨r,hr,S⟩:=List.mem_flatMap.1 this
  rw [e1]
  refine List.mem_map.2 ⟨r,hr,?_⟩
  simp only [List.mem_cons,List.not_mem_nil,or_false] at S
  rcases S with e | e<;>rw [e]
theorem Jbr (ns:List Zj) (rs:List Zbr):Jh (fun p=>p.2) (Jc (Jn ns (cnt (Zl rs))))=Jh (fun r=>((Zt ns r.fr).length:Int)+(Zt ns r.tt).length) rs:=by
 have h:=Zln (fun _=>1) (Jn ns (cnt (Zl rs)))
 simp only [Int.mul_one] at h
 rw [h]
 unfold Jn
 rw [Zb0]
 have e:Jh (fun j:Zba × Int=>Jh (fun q:Zae × Int=>q.2) (Zfu ns j)) (cnt (Zl rs))=Jh (fun j:Zba × Int=>j.2*(fun x:Zba=>((Zt ns x.1).length:Int)) j.1) (cnt (Zl rs)):=by
  refine Je fun j _=>?_
  unfold Zfu
  rw [Zaw,Zgy]
 rw [e,Zki (fun x:Zba=>((Zt ns x.1).length:Int))]
 unfold Zl
 rw [Zb0]
 refine Je fun r _=>?_
 simp only [Jh];omega
theorem Zql (h:Zav->Int) (F:List Zen):Jh (fun w:Zhl=>h w.1) (Zci F).2=Jh (fun it:Zen=>Jh (fun l=>h (l,it.2.1,0,0)) it.1) F:=by
 unfold Zci
 suffices g:∀ (F:List Zen) (s:List ByteArray × List Zhl),Jh (fun w:Zhl=>h w.1) (F.foldl Zgi s).2=Jh (fun w:Zhl=>h w.1) s.2+Jh (fun it:Zen=>Jh (fun l=>h (l,it.2.1,0,0)) it.1) F by
  have:=g F ([],[])
  simpa [Jh] using this
 intro F
 induction F with
 | nil=>intro s;simp [Jh]
 | cons x r ih =>
  intro s
  rw [List.foldl_cons,ih]
  simp only [Zgi,Zkh,Zaw,Jh]
  omega
theorem Zyl (tx:Zd->ByteArray) {ns:List Zj} (k:Zav) (B:∀ n ∈ ns,n.labels.Nodup/\(n.props.map Prod.fst).Nodup):Jh (fun w:Zhl=>if w.1=k then 1 else 0) (Zci (Zq tx ns)).2<=Zan k.1 (Zi ns):=by
 rw [Zql (fun x=>if x=k then 1 else 0),Zgh]
 unfold Zq
 rw [Zb0]
 refine Zfe fun n hn=>?_
 rw [Zaw]
 by_cases hl:k.1 ∈ n.labels
 ·rw [(Zim (B n hn).1).2.1 hl]
  have G:=Zil Prod.fst k.2.1 (B n hn).2
  refine Int.le_trans (Zfe (g:=fun q=>if q.1=k.2.1 then 1 else 0) fun q _=>?_) G.2.2
  show Jh (fun l=>if ((l,q.1,0,0):Zav)=k then (1:Int) else 0) n.labels<=_
  by_cases E:q.1=k.2.1
  ·rw [if_pos E]
   have I:=Zil id k.1 (l:=n.labels) (by simpa using (B n hn).1)
   refine Int.le_trans (Zfe (g:=fun l=>if id l=k.1 then 1 else 0) fun l _=>?_) I.2.2
   by_cases C:((l,q.1,0,0):Zav)=k
   ·rw [if_pos C,if_pos (by rw [<- C];rfl)];exact Int.le_refl _
   ·rw [if_neg C];exact Zqj
  ·rw [if_neg E]
   have:Jh (fun l=>if ((l,q.1,0,0):Zav)=k then (1:Int) else 0) n.labels=Jh (fun _=>0) n.labels:=Je fun l _=>by
    rw [if_neg];intro e;exact E (by rw [<- e])
   rw [this,Zch];exact Int.le_refl _
 ·rw [(Zim (B n hn).1).1 hl]
  have:Jh (fun q=>Jh (fun l=>if ((l,(Zbs tx n.labels q).2.1,0,0):Zav)=k then (1:Int) else 0) (Zbs tx n.labels q).1) n.props=Jh (fun _=>0) n.props:=Je fun q _=>by
   show Jh (fun l=>if ((l,q.1,0,0):Zav)=k then (1:Int) else 0) n.labels=0
   have:Jh (fun l=>if ((l,q.1,0,0):Zav)=k then (1:Int) else 0) n.labels=Jh (fun _=>0) n.labels:=Je fun l a0=>by
    rw [if_neg];intro e;exact hl (by rw [<- e];exact a0)
   rw [this,Zch]
  rw [this,Zch];exact Int.le_refl _
theorem Zt4 {H:List Zhl} {p:Zav × Int} (u:p ∈ Zds H):1<=Zn p.1 (Zbv H)/\Zn p.1 (Zbv H)<=p.2/\p.2=Jh (fun w:Zhl=>if w.1=p.1 then 1 else 0) H:=by
 have D:=((Zbe (Jq _)).1 (show (p.1,p.2) ∈ Jc _ from u)).2
 rw [Jf,Zcv,Zaw] at D
 have hv:Zn p.1 (Zbv H)=Jh (fun q:Zhl × Int=>1*(if q.1.1=p.1 then 1 else 0)) (cnt H):=by
  unfold Zbv
  rw [Jf,Zcv,Zaw]
 refine ⟨?_,?_,?_⟩
 ·rw [hv]
  obtain ⟨x,v,e⟩:=Zko u
  have hk:x ∈ (cnt H).map Prod.fst:=(Zdb H x).2 v
  obtain ⟨q,E,e2⟩:=List.mem_map.1 hk
  refine Jbp (fun q _=>?_) E ?_
  ·rw [Int.one_mul];exact Zqj
  ·rw [e2,if_pos e.symm];simp
 ·rw [hv,<- D]
  refine Zfe fun q E=>?_
  have:=Zsg H q E
  simp only
  split<;>omega
 ·rw [<- D]
  exact Zki (fun w:Zhl=>if w.1=p.1 then 1 else 0) H
structure Zt5 (g:Zx) (s:Zak):Prop where
 n:s.nodes=g.nodes.length
 r:s.rels=g.rels.length
 tt:Zm4 s.types (g.rels.map fun r=>r.type)
 ll:Zm4 s.labels (Zi g.nodes)
 ln:∀ x ∈ s.labels,x.2<=s.nodes
 kk:∀ x ∈ s.keys,1<=x.2.2.2/\x.2.2.2<=x.2.2.1/\x.2.2.1<=Zan x.1 (Zi g.nodes)/\x.1 ∈ Zi g.nodes
 kn:(s.keys.map Zic).Nodup
 ee:∀ x ∈ s.ends,1<=x.2.2.2/\x.2.2.2<=Zan x.1 (g.rels.map fun r=>r.type)/\x.1 ∈ g.rels.map fun r=>r.type
 en:(s.ends.map Zhz).Nodup
 ea:Jh (fun x=>x.2.2.2) s.ends=Jh (fun r=>((Zt g.nodes r.fr).length:Int)+(Zt g.nodes r.tt).length) g.rels
theorem Jec {tx:Zd->ByteArray} {g:Zx} {s:Zak} (h:Zk7 tx g (fun a b=>¬ cfL b a<0) (fun a b=>¬ cfL b a<0) (fun a b=>¬ cfE b a<0) (fun a b=>¬ cfK b a<0) s) (C:∀ a b,Zc5 b a=- Zc5 a b) (B:∀ n ∈ g.nodes,n.labels.Nodup/\(n.props.map Prod.fst).Nodup):Zt5 g s:=by
 have hl:=Zyk h.l1 h.l2 C
 have a8:∀ p ∈ Jc (Jn g.nodes (cnt (Zl g.rels))),p.1=(p.1.1,p.1.2.1,p.1.2.2.1,0):=fun p u=>by
  obtain ⟨_,_,_,_,_,z⟩:=Zkn u
  exact Prod.ext rfl (Prod.ext rfl (Prod.ext rfl z))
 have a7:∀ p ∈ Zds (Zci (Zq tx g.nodes)).2,p.1=(p.1.1,p.1.2.1,0,0):=fun p u=>by
  obtain ⟨x,v,z⟩:=Zko u
  have w:=(Zdg _).2.2.2 x v
  exact Prod.ext rfl (Prod.ext rfl (by rw [z,w]))
 refine ⟨h.n,h.r,Zyk h.t1 h.t2 C,hl,fun x v=>?_,fun x v=>?_,?_,fun x v=>?_,?_,?_⟩
 ·rw [(hl.val x v).1,Zgh,h.n]
  have:=Zem (f:=fun n=>Zan x.1 n.labels) (c:=1) (l:=g.nodes) fun n hn=>(Zim (B n hn).1).2.2
  omega
 ·obtain ⟨p,u,rfl⟩:=List.mem_map.1 (h.k1.mem_iff.1 v)
  obtain ⟨T,U,a3⟩:=Zt4 u
  have a4:=Zyl tx p.1 B
  rw [<- a3] at a4
  refine ⟨T,U,a4,?_⟩
  have a5:1<=Zan p.1.1 (Zi g.nodes):=by omega
  show p.1.1 ∈ Zi g.nodes
  by_cases hm:p.1.1 ∈ Zi g.nodes
  ·exact hm
  ·exfalso
   have:Zan p.1.1 (Zi g.nodes)=Jh (fun _=>0) (Zi g.nodes):=Je fun x v=>if_neg fun (e:x=p.1.1)=>hm (e▸v)
   rw [this,Zch] at a5
   omega
 ·rw [(h.k1.map Zic).nodup_iff]
  unfold Zom
  rw [List.map_map]
  have e:(Zds (Zci (Zq tx g.nodes)).2).map (Zic ∘ Zr9 (Zbv (Zci (Zq tx g.nodes)).2))=(Zds (Zci (Zq tx g.nodes)).2).map Prod.fst:=List.map_congr_left fun p u=>(a7 p u).symm
  rw [e]
  exact Jq _
 ·obtain ⟨p,u,rfl⟩:=List.mem_map.1 (h.e1.mem_iff.1 v)
  exact Jbq u fun n hn=>(B n hn).1
 ·rw [(h.e1.map Zhz).nodup_iff,List.map_map]
  have e:(Jc (Jn g.nodes (cnt (Zl g.rels)))).map (Zhz ∘ fun p:Zae × Int=>(p.1.1,p.1.2.1,p.1.2.2.1,p.2))=(Jc (Jn g.nodes (cnt (Zl g.rels)))).map Prod.fst:=List.map_congr_left fun p u=>(a8 p u).symm
  rw [e]
  exact Jq _
 ·rw [Zqi h.e1,Zaw,<- Jbr]
theorem Zt5.asks {g:Zx} {s:Zak} (h:Zt5 g s) (D:g.nodes.length<=60) (G:g.rels.length<=60) (I:(Zi g.nodes).length<=1000000) :
  Ze2 s.nodes=s.nodes/\Zcf s []=s.rels/\(∀ x ∈ s.types,Zcf s [x.1,x.1]=x.2)/\(∀ x ∈ s.labels,Zau s [x.1]=x.2)/\(∀ x ∈ s.keys,x.2.2.1<=Zau s [x.1]/\1<=Zr0 s x.1 x.2.1)/\∀ x ∈ s.ends,x.2.2.2<=Zcf s [x.1]/\Zb7 s x.2.1 x.2.2.1 [x.1]=x.2.2.2:=by
 have hn:=h.n
 have hr:=h.r
 have hb:∀ x ∈ s.ends,x.2.2.2<=4611686018427387904:=fun x v=>by
  have a:=(h.ee x v).2.1
  have b:=Zol x.1 (g.rels.map fun r=>r.type)
  rw [List.length_map] at b
  omega
 have hk:∀ x ∈ s.keys,x.2.2.1<=4611686018427387904:=fun x v=>by
  have a:=(h.kk x v).2.2.1
  have b:=Zol x.1 (Zi g.nodes)
  omega
 have X:∀ x ∈ s.types,0<=x.2/\x.2<=4611686018427387904:=fun x v=>by
  have a:=h.tt.val x v
  have b:=Zol x.1 (g.rels.map fun r=>r.type)
  rw [List.length_map] at b
  omega
 have P:∀ x ∈ s.labels,Zau s [x.1]=x.2:=fun x v=>by
  have a:=h.ll.val x v
  have b:=h.ln x v
  unfold Zau
  rw [(h.ll.first v _).1,Zjp,Zjp,Zm3 (by omega) (by omega),Zm3 (by omega) (by omega)]
  split<;>omega
 refine ⟨Zm3 (by omega) (by omega),?_,fun x v=>?_,P,fun x v=>⟨?_,?_⟩,fun x v=>⟨?_,?_⟩⟩
 ·unfold Zcf
  rw [if_pos rfl,Zm3 (by omega) (by omega)]
 ·unfold Zcf
  rw [if_neg (by simp),(h.tt.first v _).2]
  exact Zok (X x v).1 (X x v).2
 ·have a:=h.kk x v
  have b:=P _ (h.ll.hit x.1 a.2.2.2)
  rw [b]
  exact a.2.2.1
 ·have a:=h.kk x v
  have e:Ji Zic (⟨#[]⟩,⟨#[]⟩,0,0) s.keys [(x.1,x.2.1,0,0)]=[x]:=Zjc h.kn v
  unfold Zr0
  rw [e]
  exact Zyg (by omega) (hk x v)
 ·have a:=h.ee x v
  have b:=h.tt.hit x.1 a.2.2
  have c:=X _ b
  unfold Zcf
  rw [if_neg (by simp),(h.tt.first b _).1]
  show _<=Zah [_]
  rw [Zok c.1 c.2]
  exact a.2.1
 ·have a:=h.ee x v
  have e:Ji Zhz (⟨#[]⟩,⟨#[]⟩,false,0) s.ends [(x.1,x.2.1,x.2.2.1,0)]=[x]:=Zjc h.en v
  unfold Zb7
  rw [List.map_cons,List.map_nil,e]
  exact Zok (show 0<=x.2.2.2 by omega) (hb x v)
def Jiu (g:Zx) (s:Zak):Prop:=Zk7 txG g (fun a b=>¬ cfL b a<0) (fun a b=>¬ cfL b a<0) (fun a b=>¬ cfE b a<0) (fun a b=>¬ cfK b a<0) s
theorem Jh2 {g:Zx} {s:Zak} (hs:Zao g=true) (V:Zaz g=true) (a6:∀ r ∈ g.rels,W64 r.fr/\W64 r.tt) (hid:∀ n ∈ g.nodes,W64 n.id) (C:Zk7 txG g (fun a b=>¬ cfL b a<0) (fun a b=>¬ cfL b a<0) (fun a b=>¬ cfE b a<0) (fun a b=>¬ cfK b a<0) s):Jfb s:=by
 have hk:=V
 simp only [Zaz,Bool.and_eq_true] at hk
 obtain ⟨_,⟨D,_⟩,I,_⟩:=hk
 exact Zu4 hs (Zqo txG hs (fun n hn=>by have:=Zfj I n hn;omega) a6 (Zh9 D).2 hid) C
end Go.Proofs.YthfilnflgahcjaaGreatDoor

