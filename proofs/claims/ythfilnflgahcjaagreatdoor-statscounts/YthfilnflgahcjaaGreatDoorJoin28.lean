/- What a small graph weighs. A small graph is mild. How many rows a small graph's counts have. A small graph's counts fit. Rows of bytes that grow: what is said of them, and the smallest that make them grow. A row of bytes that grows: what the boxes beside it bear. The statement that tells a list, operation by operation, in whatever order. -/
import Derived.Test.YthfilnflgahcjaaGreatDoorJoin27
import Derived.Test.YthfilnflgahcjaaGreatDoorJoin19
import Derived.Test.YthfilnflgahcjaaGreatDoorJoin23
import Derived.Test.YthfilnflgahcjaaGreatDoorJoin16
import Derived.Test.YthfilnflgahcjaaGreatDoorJoin26
import Derived.Lib.AppendStr
import Derived.Lib.BufferKept
import Derived.Test.YthfilnflgahcjaaGreatDoorJoin10
import Derived.Deep.AppendLies
namespace Go.Proofs.YthfilnflgahcjaaGreatDoor
open Go.RowKit Go.Shelf
set_option linter.all false
def Zl3 (b:List (ByteArray × Zd)):Int:=(b.map fun q=>1+(q.1.size:Int)+q.2.total).sum
def Zdc (x:Zj):Int:=x.labels.length+Zv x.labels+Zl3 x.props
def Jce (x:Zbr):Int:=1+x.type.size+Zl3 x.props
theorem Zi3 (q:ByteArray × Zd) (r:List (ByteArray × Zd)):Zl3 (q::r)=1+(q.1.size:Int)+q.2.total+Zl3 r:=by simp [Zl3]
theorem Zbz:∀ b:List (ByteArray × Zd),2*(b.length:Int)<=Zl3 b
 | []=>by simp [Zl3]
 | q::r=>by
  have:=Zbz r
  have:=Zdn q.2
  rw [Zi3];simp only [List.length_cons];omega
theorem Zkz:∀ {b:List (ByteArray × Zd)} {q:ByteArray × Zd},q ∈ b->1+(q.1.size:Int)+q.2.total<=Zl3 b
 | k::r,q,h=>by
  have d:=Zbz r
  have i:=Zdn k.2
  rw [Zi3]
  rcases List.mem_cons.1 h with rfl | h
  ·omega
  ·have:=Zkz h;omega
theorem Znz:∀ (b:List (ByteArray × Zd)) (n:Int),0<=n->Zam n b<=3000->Zam n b=n+Zl3 b
 | [],n,_,_=>by simp [Zam,Zl3]
 | q::r,n,hn0,h=>by
  simp only [Zam] at h |-
  split at h
  ·rename_i hn
   have d:=Zb3 r (n+1+q.1.size+Zkb q.2 3000)
   have i:=Ziu q.2 3000
   rw [if_pos hn,Znz r _ (by omega) h,Zi3,Zy9 q.2 3000 (by omega)]
   omega
  ·omega
section
variable {α:Type} {f:Int->α->Int} {c:α->Int}
theorem Zz2:∀ (xs:List α) (n:Int),(∀ m x,x ∈ xs->0<=m->m<=f m x)->0<=n->n<=gZ f n xs
 | [],n,_,_=>by simp [gZ]
 | x::r,n,hf,o=>by
  simp only [gZ]
  split
  ·have d:=hf n x (by simp) o
   have:=Zz2 r (f n x) (fun m y j=>hf m y (by simp [j])) (by omega)
   omega
  ·omega
theorem Jde:∀ (xs:List α) (n:Int),(∀ m x,x ∈ xs->0<=m->m<=f m x)->(∀ m x,x ∈ xs->0<=m->f m x<=3000->f m x=m+c x)->0<=n->gZ f n xs<=3000->gZ f n xs=n+(xs.map c).sum
 | [],n,_,_,_,_=>by simp [gZ]
 | x::r,n,hf,e,o,h=>by
  simp only [gZ] at h |-
  split at h
  ·rename_i hn
   have d:=hf n x (by simp) o
   have i:=Zz2 r (f n x) (fun m y j=>hf m y (by simp [j])) (by omega)
   rw [if_pos hn,Jde r _ (fun m y j=>hf m y (by simp [j])) (fun m y j=>e m y (by simp [j])) (by omega) h,e n x (by simp) o (by omega)]
   simp only [List.map_cons,List.sum_cons];omega
  ·omega
end
theorem Je5 (m:Int) (x:Zj):m<=fN m x:=by
 have a:=Zfk 3000 x.labels m
 have c:=Zb3 x.props 0
 unfold fN;omega
theorem Je6 (m:Int) (x:Zbr):m<=fR m x:=by
 have c:=Zb3 x.props 0
 unfold fR;omega
theorem Jhj (m:Int) (x:Zj) (o:0<=m) (h:fN m x<=3000):fN m x=m+Zdc x:=by
 have a:=Zfk 3000 x.labels m
 have c:=Zb3 x.props 0
 unfold fN at h |-
 unfold Zdc
 rw [Zou 3000 x.labels m (by omega),Znz x.props 0 (by omega) (by omega)]
 omega
theorem Jhk (m:Int) (x:Zbr) (o:0<=m) (h:fR m x<=3000):fR m x=m+Jce x:=by
 have c:=Zb3 x.props 0
 unfold fR at h |-
 unfold Jce
 rw [Znz x.props 0 (by omega) (by omega)]
 omega
theorem Za6 {g:Zx} (h:Zao g=true):g.nodes.length+g.rels.length<=60/\(g.nodes.map Zdc).sum+(g.rels.map Jce).sum<=3000:=by
 unfold Zao at h
 split at h
 ·cases h
 ·rename_i hn
  have d:=of_decide_eq_true h
  have i:=Zz2 (f:=fN) g.nodes 0 (fun m x _ _=>Je5 m x) (by omega)
  have s:=Zz2 (f:=fR) g.rels (gZ fN 0 g.nodes) (fun m x _ _=>Je6 m x) i
  have t:gZ fN 0 g.nodes<=3000:=by omega
  rw [Jde (c:=Jce) g.rels _ (fun m x _ _=>Je6 m x) (fun m x _=>Jhk m x) i d,Jde (c:=Zdc) g.nodes _ (fun m x _ _=>Je5 m x) (fun m x _=>Jhj m x) (by omega) t] at d
  exact ⟨by omega,by omega⟩
theorem Zeg (x:Zj):0<=Zdc x:=by
 have:=Zbz x.props
 have:=Zu x.labels
 unfold Zdc;omega
theorem Zh4 (x:Zbr):1<=Jce x:=by
 have:=Zbz x.props
 unfold Jce;omega
theorem Zrg {α:Type} {c:α->Int} (e:∀ x,0<=c x):∀ {xs:List α} {x:α},x ∈ xs->c x<=(xs.map c).sum
 | k::r,x,h=>by
  have d:0<=(r.map c).sum:=by
   clear h
   induction r with
   | nil=>simp
   | cons a l ih=>have:=e a;simp only [List.map_cons,List.sum_cons];omega
  have i:=e k
  simp only [List.map_cons,List.sum_cons]
  rcases List.mem_cons.1 h with rfl | h
  ·omega
  ·have:=Zrg e h;omega
theorem Zf2 {α:Type} {c:α->Int} (e:∀ x,0<=c x) (xs:List α):0<=(xs.map c).sum:=by
 induction xs with
 | nil=>simp
 | cons a l ih=>have:=e a;simp only [List.map_cons,List.sum_cons];omega
theorem Zuz {g:Zx} (h:Zao g=true) {x:Zj} (p:x ∈ g.nodes):Zdc x<=3000:=by
 have d:=Za6 h
 have i:=Zrg Zeg p
 have s:=Zf2 (fun x=>Int.le_trans (by omega) (Zh4 x)) g.rels
 omega
theorem Zwt {g:Zx} (h:Zao g=true) {x:Zbr} (p:x ∈ g.rels):Jce x<=3000:=by
 have d:=Za6 h
 have i:=Zrg (fun x=>Int.le_trans (by omega) (Zh4 x)) p
 have s:=Zf2 Zeg g.nodes
 omega
end Go.Proofs.YthfilnflgahcjaaGreatDoor

namespace Go.Proofs.YthfilnflgahcjaaGreatDoor
open Go.RowKit Go.Shelf
set_option linter.all false
mutual
theorem Zpe:∀ T:Zd,(T.height:Int)<=T.total
 | .mk k b n s ks ts=>by
  have h:=heightL_le ts
  have hk:=Zu ks
  simp only [Zd.height,Zd.total]
  omega
theorem heightL_le:∀ l:List Zd,(Zd.heightL l:Int)<=Zd.totalL l
 | []=>by simp [Zd.heightL,Zd.totalL]
 | t::ts=>by
  have f:=Zpe t
  have j:=heightL_le ts
  have m:=Zdn t
  have o:=Zn7 ts
  simp only [Zd.heightL,Zd.totalL]
  omega
end
theorem Zf0 {T:Zd} (h:T.total<=3000):T.height<100000000/\bytesOf (T.pre 1)<4611686018427387904:=by
 have f:=Zpe T
 have j:=(Zrp T).2.1.2
 rw [Zk9]
 omega
theorem Jdd {ks:List ByteArray} {x:ByteArray} (h:x ∈ ks):(x.size:Int)<=Zv ks:=by
 induction ks with
 | nil=>cases h
 | cons k r ih =>
  have:=Zu r
  rw [Ze6]
  rcases List.mem_cons.1 h with rfl | h
  ·omega
  ·have:=ih h;omega
theorem Zbf {g:Zx} (h:Zao g=true) {x:Zj} (i:x ∈ g.nodes):x.labels.length<=3000/\(∀ l ∈ x.labels,l.size<=3000)/\x.props.length<=1500/\∀ q ∈ x.props,q.1.size<=3000/\q.2.total<=3000:=by
 have f:=Zuz h i
 unfold Zdc at f
 have j:=Zbz x.props
 have m:=Zu x.labels
 refine ⟨by omega,fun l hl=>?_,by omega,fun q e=>?_⟩
 ·have:=Jdd hl;omega
 ·have:=Zkz e
  have:=Zdn q.2
  omega
theorem Zf1 {g:Zx} (h:Zao g=true) {x:Zbr} (i:x ∈ g.rels):x.type.size<=3000/\x.props.length<=1500/\∀ q ∈ x.props,q.1.size<=3000/\q.2.total<=3000:=by
 have f:=Zwt h i
 unfold Jce at f
 have j:=Zbz x.props
 refine ⟨by omega,by omega,fun q e=>?_⟩
 have:=Zkz e
 have:=Zdn q.2
 omega
theorem Zi2 {g:Zx} (h:Zao g=true):Jbj g:=by
 have f:=(Za6 h).1
 refine ⟨by omega,by omega,fun n hn=>?_,fun r hr=>?_⟩
 ·obtain ⟨a,b,c,d⟩:=Zbf h hn
  exact ⟨fun x i=>by have:=b x i;omega,fun q e=>⟨by have:=(d q e).1;omega,Zf0 (d q e).2⟩⟩
 ·obtain ⟨a,c,d⟩:=Zf1 h hr
  exact ⟨by omega,fun q e=>⟨by have:=(d q e).1;omega,Zf0 (d q e).2⟩⟩
end Go.Proofs.YthfilnflgahcjaaGreatDoor

namespace Go.Proofs.YthfilnflgahcjaaGreatDoor
open Go.RowKit Go.Shelf
set_option linter.all false
theorem Zwc {a b:Int} (f:0<=a) (h:a<=b):a*a<=b*b:=Int.mul_le_mul h h f (Int.le_trans f h)
theorem Jhh {L P W:Int} (c:0<=L) (d:0<=P) (h:2*L+2*P<=W):16*(L*P)<=W*W:=by
 have a:=Zwc (a:=2*L+2*P) (b:=W) (by omega) h
 have b:0<=(L - P)*(L - P):=by
  rcases Int.le_total L P with g | g
  ·have:=Int.mul_nonneg (show 0<=P - L by omega) (show 0<=P - L by omega)
   have e:(L - P)*(L - P)=(P - L)*(P - L):=by rw [<- Int.neg_sub P L,Int.neg_mul_neg]
   omega
  ·exact Int.mul_nonneg (by omega) (by omega)
 have e1:(2*L+2*P)*(2*L+2*P)=4*(L*L)+8*(L*P)+4*(P*P):=by
  rw [Int.add_mul,Int.mul_add,Int.mul_add,Int.mul_comm (2*P) (2*L)]
  have l:2*L*(2*L)=4*(L*L):=by rw [Int.mul_assoc,Int.mul_left_comm L 2 L,<- Int.mul_assoc];rfl
  have j:2*L*(2*P)=4*(L*P):=by rw [Int.mul_assoc,Int.mul_left_comm L 2 P,<- Int.mul_assoc];rfl
  have m:2*P*(2*P)=4*(P*P):=by rw [Int.mul_assoc,Int.mul_left_comm P 2 P,<- Int.mul_assoc];rfl
  omega
 have e2:(L - P)*(L - P)=L*L - 2*(L*P)+P*P:=by
  rw [Int.sub_mul,Int.mul_sub,Int.mul_sub,Int.mul_comm P L];omega
 omega
theorem Jex {a b:Int} (c:0<=a) (d:0<=b):a*a+b*b<=(a+b)*(a+b):=by
 have h:=Int.mul_nonneg c d
 rw [Int.add_mul,Int.mul_add,Int.mul_add,Int.mul_comm b a];omega
theorem Zme (tx:Zd->ByteArray) (ls:List ByteArray):∀ i:List (ByteArray × Zd),(Zju (i.map (Zbs tx ls)):Int)=ls.length*i.length
 | []=>by simp [Zju]
 | q::r=>by
  have h:=Zme tx ls r
  rw [List.map_cons,Zju,List.length_cons]
  have e:(Zbs tx ls q).1.length=ls.length:=rfl
  have e2:(ls.length:Int)*((r.length+1:Nat):Int)=(ls.length:Int)*(r.length:Int)+ls.length:=by rw [Int.natCast_add,Int.mul_add];simp
  omega
theorem Zwd (tx:Zd->ByteArray):∀ (ns:List Zj),(∀ n ∈ ns,(n.labels.length:Int)<=Zv n.labels+1)->0<=(ns.map fun n=>Zdc n+1).sum/\16*(Zju (Zq tx ns):Int)<=(ns.map fun n=>Zdc n+1).sum*(ns.map fun n=>Zdc n+1).sum
 | [],_=>by simp [Zq,Zju]
 | x::r,h=>by
  obtain ⟨c,d⟩:=Zwd tx r fun n hn=>h n (by simp [hn])
  have p:=h x (by simp)
  have o:=Zeg x
  have s:=Zbz x.props
  have k:=Jhh (L:=x.labels.length) (P:=x.props.length) (W:=Zdc x+1) (by omega) (by omega) (by unfold Zdc;omega)
  have t:=Jex (a:=Zdc x+1) (b:=(r.map fun n=>Zdc n+1).sum) (by omega) c
  have e:Zq tx (x::r)=x.props.map (Zbs tx x.labels)++Zq tx r:=by simp [Zq]
  have e2:=Zme tx x.labels x.props
  rw [e,Zcw,List.map_cons,List.sum_cons]
  omega
end Go.Proofs.YthfilnflgahcjaaGreatDoor

namespace Go.Proofs.YthfilnflgahcjaaGreatDoor
open Go.RowKit Go.Shelf
set_option linter.all false
theorem Zkj:∀ ns:List Zj,((Zi ns).length:Int)<=(ns.map Zdc).sum
 | []=>by simp [Zi]
 | x::r=>by
  have h:=Zkj r
  have k:=Zbz x.props
  have l:=Zu x.labels
  have e:Zi (x::r)=x.labels++Zi r:=by simp [Zi]
  rw [e,List.map_cons,List.sum_cons,List.length_append]
  unfold Zdc at h |-
  omega
theorem Zqn (tx:Zd->ByteArray):∀ ns:List Zj,((Zq tx ns).length:Int)<=(ns.map Zdc).sum
 | []=>by simp [Zq]
 | x::r=>by
  have h:=Zqn tx r
  have k:=Zbz x.props
  have l:=Zu x.labels
  have e:Zq tx (x::r)=x.props.map (Zbs tx x.labels)++Zq tx r:=by simp [Zq]
  rw [e,List.map_cons,List.sum_cons,List.length_append,List.length_map]
  unfold Zdc at h |-
  omega
theorem Zt6:∀ ns:List Zj,(ns.map fun n=>Zdc n+1).sum=(ns.map Zdc).sum+ns.length
 | []=>by simp
 | x::r=>by
  have h:=Zt6 r
  rw [List.map_cons,List.sum_cons,List.map_cons,List.sum_cons,List.length_cons]
  omega
theorem Zqo (tx:Zd->ByteArray) {g:Zx} (h:Zao g=true) (d:∀ n ∈ g.nodes,(n.labels.length:Int)<=Zv n.labels+1) (i:∀ r ∈ g.rels,W64 r.fr/\W64 r.tt) (j:(g.nodes.map Zj.id).Nodup) (hid:∀ n ∈ g.nodes,W64 n.id):Zpt tx g 900000 3000:=by
 obtain ⟨k,l⟩:=Za6 h
 have u:=Zf2 Zeg g.nodes
 have p:=Zf2 (fun x=>Int.le_trans (by omega) (Zh4 x)) g.rels
 have s:=Zkj g.nodes
 have t:=Zqn tx g.nodes
 have q:=Zkt (Zl g.rels)
 have v:=Zcb g.rels
 have f:∀ n ∈ g.nodes,n.labels.length<=3000:=fun n hn=>(Zbf h hn).1
 have o:Zju (Zq tx g.nodes)<=900000:=by
  obtain ⟨a,b⟩:=Zwd tx g.nodes d
  have c:=Zwc (a:=(g.nodes.map fun n=>Zdc n+1).sum) (b:=3060) a (by rw [Zt6];omega)
  omega
 have m:(Jn g.nodes (cnt (Zl g.rels))).length<=900000:=by
  have a:=Zgo g.nodes 3000 (Zku f) (cnt (Zl g.rels))
  omega
 refine ⟨by omega,by omega,i,j,hid,by omega,f,by omega,by omega,by omega,by omega,?_,?_,?_,?_⟩
 ·have:=Ziv (Zi g.nodes);omega
 ·have:=Ziv (g.rels.map fun r=>r.type);rw [List.length_map] at this;omega
 ·exact Nat.le_trans (Zmg _) m
 ·unfold Zds
  refine Nat.le_trans (Zmg _) ?_
  rw [List.length_map]
  refine Nat.le_trans (Zkt _) ?_
  rw [(Zdg _).2.2.1];exact o
end Go.Proofs.YthfilnflgahcjaaGreatDoor

namespace Go.Proofs.YthfilnflgahcjaaGreatDoor
open Go.RowKit Go.Shelf Go.Lib
set_option linter.all false
theorem Tryz.info5:(Tryz.prog.info? 5).map (fun i=>(i.zero,i.size,i.bytes))=some (some (.int .u8 0),1,1):=by kernel_rfl
theorem Zos {base n:Nat} {v:Value} {xs:List Value} {w w':World} (c:w.ownsRow base 5 1 v n xs) (hg:w.grownBy w' v.ownBlock):OthersKept 5 none w w':=fun k o hk _ j=>by
 have G:k<w.heap.size:=(Array.getElem?_eq_some_iff.1 hk).1
 by_cases e:some k=v.ownBlock
 ·obtain ⟨_,⟨L,_⟩ | ⟨g,cap,r,L,_,E,_⟩⟩:=c
  ·rw [L] at e;cases e
  ·rw [L] at e
   have:k=g:=by simpa [Value.ownBlock] using e
   rw [this,E] at hk
   exact absurd (Option.some.inj hk).symm (j _ _)
 ·exact (hg.block k G e).trans hk
theorem Zl9 {base n:Nat} {v:Value} {xs:List Value} {w w':World} (c:w.ownsRow base 5 1 v n xs) (hB:base<=w.heap.size) (hg:w.grownBy w' v.ownBlock):Below base w w' :=
 (Below.refl base w).grown hg hB fun q h=>(c.lt q h).1
structure Zaa (base n:Nat) (xs:List Value) (v:Value) (w:World) (bs:List UInt8) (d:Value) (w':World):Prop where
 own:w'.ownsRow base 5 1 d (n+bs.length) (xs++byteCells bs)
 grown:w.grownBy w' v.ownBlock
 place:d.ownBlock=v.ownBlock\/∃ g,d.ownBlock=some g/\w.heap.size<=g
theorem Zdf {base n:Nat} {v:Value} {xs:List Value} {w:World} (c:w.ownsRow base 5 1 v n xs):Zaa base n xs v w [] v w :=
 ⟨by simpa [byteCells] using c,⟨rfl,rfl,rfl,Nat.le_refl _,fun _ _ _=>rfl⟩,.inl rfl⟩
theorem Zaa.trans {base n:Nat} {xs:List Value} {w w1 w2:World} {bs cs:List UInt8} {v l v2:Value} (h:Zaa base n xs v w bs l w1) (u:Zaa base (n+bs.length) (xs++byteCells bs) l w1 cs v2 w2):Zaa base n xs v w (bs++cs) v2 w2:=by
 have z:=h.grown.size
 refine ⟨by have:=u.own;rw [List.append_assoc,Nat.add_assoc] at this;simpa [byteCells] using this,⟨u.grown.os.trans h.grown.os,u.grown.tape.trans h.grown.tape,u.grown.output.trans h.grown.output,Nat.le_trans z u.grown.size,fun k hk j=>?_⟩,?_⟩
 ·refine (u.grown.block k (Nat.lt_of_lt_of_le hk z) fun e=>?_).trans (h.grown.block k hk j)
  rcases h.place with g | ⟨g,e1,e2⟩
  ·exact j (e.trans g)
  ·rw [e1] at e
   have:k=g:=by simpa using e
   omega
 ·rcases u.place with g | ⟨g,e1,e2⟩
  ·rw [g];exact h.place
  ·exact .inr ⟨g,e1,by omega⟩
theorem Zaa.below {base n:Nat} {xs:List Value} {w w1:World} {bs:List UInt8} {v l:Value} (h:Zaa base n xs v w bs l w1) (c:w.ownsRow base 5 1 v n xs) (hB:base<=w.heap.size):Below base w w1:=Zl9 c hB h.grown
theorem Zaa.kept {base n:Nat} {xs:List Value} {w w1:World} {bs:List UInt8} {v l:Value} (h:Zaa base n xs v w bs l w1) (c:w.ownsRow base 5 1 v n xs):OthersKept 5 none w w1:=Zos c h.grown
theorem Zcl {base n:Nat} {xs:List Value} {v:Value} {w w1:World} (c:w.ownsRow base 5 1 v n xs) (hb:Below w.heap.size w w1):w1.ownsRow base 5 1 v n xs:=by
 obtain ⟨y,⟨M,H⟩ | ⟨g,cap,r,M,H,R,W⟩⟩:=c
 ·exact ⟨y,.inl ⟨M,H⟩⟩
 ·exact ⟨y,.inr ⟨g,cap,r,M,H,(hb.block g (Array.getElem?_eq_some_iff.1 R).1).trans R,W⟩⟩
theorem Zaa.from {base n:Nat} {xs:List Value} {w w1 w2:World} {bs:List UInt8} {v l:Value} (hb:Below w.heap.size w w1) (h:Zaa base n xs v w1 bs l w2):Zaa base n xs v w bs l w2 :=
 ⟨h.own,⟨h.grown.os.trans hb.os,h.grown.tape.trans hb.tape,h.grown.output.trans hb.output,Nat.le_trans hb.size h.grown.size,fun k hk j=>(h.grown.block k (Nat.lt_of_lt_of_le hk hb.size) j).trans (hb.block k hk)⟩,
  h.place.imp id fun ⟨g,e1,e2⟩=>⟨g,e1,Nat.le_trans hb.size e2⟩⟩
theorem Zaa.upto {base n:Nat} {xs:List Value} {w w1 w2:World} {bs:List UInt8} {v l:Value} (h:Zaa base n xs v w bs l w1) (hb:Below w1.heap.size w1 w2):Zaa base n xs v w bs l w2 :=
 ⟨Zcl h.own hb,⟨hb.os.trans h.grown.os,hb.tape.trans h.grown.tape,hb.output.trans h.grown.output,Nat.le_trans h.grown.size hb.size,fun k hk j=>(hb.block k (Nat.lt_of_lt_of_le hk h.grown.size)).trans (h.grown.block k hk j)⟩,h.place⟩
theorem Zjz {ty:TypeId} {base n:Nat} {v d:Value} {xs:List Value} {w w':World} {s:ByteArray} (c:w.ownsRow base 5 1 v n xs) (N:0<s.size) (hn:n+s.size<=100000000000000)
  (f:(Builtin.append_ #[116,9] ty #[v,.string s]).run Tryz.prog w=.ok d w'):d.ownBlock=v.ownBlock\/∃ g,d.ownBlock=some g/\w.heap.size<=g:=by
 obtain ⟨C,A,t,p,m⟩:=info_parts Tryz.info5
 have F:xs.length=n:=by simpa using c.1
 rcases c.2 with ⟨rfl,rfl⟩ | ⟨g,cap,r,rfl,a0,hg,U,T,a1,I⟩
 ·rw [run_append_nil_string (P:=Tryz.prog) w 116 9 ty 5 C (.int .u8 0) Tryz.underlying116 Tryz.underlying9 A t s N (by omega) (by rw [m];omega)] at f
  cases f
  exact .inr ⟨_,rfl,Nat.le_refl _⟩
 ·by_cases hroom:n+s.size<=cap
  ·rw [run_append_room_string (P:=Tryz.prog) w 116 9 ty 5 C Tryz.underlying116 Tryz.underlying9 A p g n cap r hg s hroom (by omega)] at f
   cases f
   exact .inl rfl
  ·rw [run_append_grow_string (P:=Tryz.prog) w 116 9 ty 5 C (.int .u8 0) Tryz.underlying116 Tryz.underlying9 A t ⟨g,0,none⟩ n cap xs (by rw [p];simpa using F) (c.cells (g:=g) rfl) s (by omega) (by omega) (by rw [m];exact growslice_fits (by omega) (by omega))] at f
   cases f
   exact .inr ⟨_,rfl,Nat.le_refl _⟩
theorem Zab {ops:Array Oper} {rest:List Oper} {o:Oper} {a:Act} {Q:Exit->Act->World->Prop} (w:World) (D:o.guard=none) (sl x:Operand)
  (V:o.op=.call { callee:=.builtin .append,args:=#[sl,x],argTypes:=#[116,9] }) (base n:Nat) (v:Value) (xs:List Value) (X:a.eval sl=v) (c:w.ownsRow base 5 1 v n xs) (s:ByteArray) (hx:a.eval x=.string s)
  (N:0<s.size) (hn:n+s.size<=100000000000000) (hB:base<=w.heap.size)
  (h:∀ d w',Zaa base n xs v w s.data.toList d w'->wpList Tryz.prog ops Q rest (a.put o.dst d) w'):wpList Tryz.prog ops Q (o::rest) a w:=by
 refine wpList_plain D fun K S=>?_
 obtain ⟨C,A,t,p,m⟩:=info_parts Tryz.info5
 obtain ⟨d,w',hr,E,Y,h4⟩:=run_append_own_string (P:=Tryz.prog) w base 116 9 o.type 5 C Tryz.underlying116 Tryz.underlying9 A t p m v n xs c s (by unfold maxLen;omega) (by omega) hB
 unfold Oper.wp execOp
 simp only [V,resolve,invoke,builtin,Sem.run_bind,Sem.run_pure,Result.andThen_ok,List.map_toArray,List.map_cons,List.map_nil,X,hx,hr]
 exact S _ _ (h d w' ⟨E,Y,Zjz c N hn hr⟩)
def Zcm (b:Bool):List UInt8:=if b then [116,114,117,101] else [102,97,108,115,101]
set_option maxRecDepth 100000 in
theorem Zot (b:Bool) (base n:Nat) (v:Value) (xs:List Value) (w:World) (c:w.ownsRow base 5 1 v n xs) (hB:base<=w.heap.size) (hn:n<=1000000000000) :
  Calls Tryz.prog 238 #[v,.bool b] w fun e w'=>∃ d,e=.returned d/\Zaa base n xs v w (Zcm b) d w':=by
 go_enter Tryz.func238,Tryz.ntmps238
 cases b with
 | true =>
  go_wp2_with (at_builtin;refine Zab w rfl _ _ rfl base n v xs rfl c ⟨#[116,114,117,101]⟩ rfl (by decide) (by show n+4<=_;omega) hB ?_;intro d w' y)
  have B:Hid (Zaa base n xs v w (Zcm true) d w'):=y
  go_ret
  exact ⟨_,rfl,B.out⟩
 | false =>
  go_wp2_with (at_builtin;refine Zab w rfl _ _ rfl base n v xs rfl c ⟨#[102,97,108,115,101]⟩ rfl (by decide) (by show n+5<=_;omega) hB ?_;intro d w' y)
  have B:Hid (Zaa base n xs v w (Zcm false) d w'):=y
  go_ret
  exact ⟨_,rfl,B.out⟩
theorem Zma (b:Bool) (base n:Nat) (v:Value) (xs:List Value) (w:World) (c:w.ownsRow base 5 1 v n xs) (hB:base<=w.heap.size) (hn:n<=1000000000000) :
  Calls Tryz.prog 201 #[v,.bool b] w fun e w'=>∃ d,e=.returned d/\Zaa base n xs v w (Zcm b) d w':=by
 have O:=Za (Zot b base n v xs w c hB hn)
 clear c
 go_enter Tryz.func201,Tryz.ntmps201
 go_wp2_with fail
 refine O.out.mono ?_
 rintro e w' ⟨d,rfl,ht⟩
 have B:=Za ht
 clear ht O
 go_wp2_with fail
 go_ret
 exact ⟨_,rfl,B.out⟩
end Go.Proofs.YthfilnflgahcjaaGreatDoor

namespace Go.Proofs.YthfilnflgahcjaaGreatDoor
open Go.RowKit Go.Shelf Go.Lib
set_option linter.all false
structure TB (base:Nat) (w:World):Prop where
 utf:∀ w',Below base w w'->Zn5 w'
 pow:TabBelow Tryz.prog base w "internal/strconv.uint64pow10" .u64 pow10Tab
theorem TB.on {base:Nat} {w w':World} (h:TB base w) (hb:Below base w w'):TB base w':=⟨fun w2 r=>h.utf w2 (hb.trans r),h.pow.on hb⟩
theorem Zaa.box {base n:Nat} {xs:List Value} {w w1:World} {bs:List UInt8} {v f:Value} (h:Zaa base n xs v w bs f w1) (a:w.ownsRow base 5 1 v n xs) {q:Nat} {c:Array Value} {b:Nat × Nat} (d:w.heap[q]?=some (.cells c 88 b)):w1.heap[q]?=some (.cells c 88 b) :=
 h.kept a q _ d (by simp) (fun c b e=>by cases e)
theorem Zbi {w:World} {q:Nat} {c:Array Value} {b:Nat × Nat} (d:w.heap[q]?=some (.cells c 88 b)) {i:Nat} {u:Value} (p:c[i]?=some u):w.cell? ⟨q,i,none⟩=some u:=by
 unfold World.cell?;simp only [d];simpa using p
theorem Zfd {s:ByteArray}:s.data.toList.length=s.size:=rfl
theorem boxes {base n:Nat} {xs:List Value} {w w1:World} {bs:List UInt8} {v f:Value} (h:Zaa base n xs v w bs f w1) (a:w.ownsRow base 5 1 v n xs) {q:Nat} {j l o g k m:Value} {b:Nat × Nat} (d:w.heap[q]?=some (.cells #[j,l,o,g,k,m] 88 b)) :
  w1.cell? ⟨q,0,none⟩=some j/\w1.cell? ⟨q,1,none⟩=some l/\w1.cell? ⟨q,2,none⟩=some o/\w1.cell? ⟨q,3,none⟩=some g/\w1.cell? ⟨q,4,none⟩=some k/\w1.cell? ⟨q,5,none⟩=some m :=
 have h:=h.box a d
 ⟨Zbi h rfl,Zbi h rfl,Zbi h rfl,Zbi h rfl,Zbi h rfl,Zbi h rfl⟩
end Go.Proofs.YthfilnflgahcjaaGreatDoor

namespace Go.Proofs.YthfilnflgahcjaaGreatDoor
open Go.RowKit Go.Shelf Go.WideShapes Go.Lib
set_option linter.all false
noncomputable def RT9:Array Oper:=Ze0 Tryz.f152 9
def Zyw (i:Nat):List Nat:=([[],[],[0,1],[],[0,1,2,3],[],[0,1,2,3,4,5],[0,1,2,3,4,5,6]]:List (List Nat)).getD i []
def gT9 (v:Value) (p0:Int) (p1:Bool) (p2:Int) (p3:ByteArray) (pa:Option Addr) (pn pc:Nat) (pb:Option Addr) (pm pd:Nat) (i:Nat) (u:Value):Prop:=([fun u=>u=(v),fun u=>∃ t,u=.slice (some ⟨t,0,none⟩) 1 1,fun _=>True,fun u=>u=(.agg #[.int .i64 p0,.bool p1,.int .i64 p2,.string p3,.slice pa pn pc,.slice pb pm pd]),fun _=>True,fun u=>∃ t,u=.slice (some ⟨t,0,none⟩) 1 1,fun _=>True,fun _=>True]:List (Value->Prop)).getD i (fun _=>True) u
structure ST9 (q base n:Nat) (v:Value) (xs:List Value) (p0:Int) (p1:Bool) (p2:Int) (p3:ByteArray) (pa:Option Addr) (pn pc:Nat) (pb:Option Addr) (pm pd:Nat) (A:List UInt8) (w0:World) (l:Nat->Bool) (vs:Nat->Value) (w:World):Prop where
 told:l 6=false->Zaa base n xs v w0 (if l 4 then [91]++A else if l 2 then [91] else []) (if l 4 then vs 4 else if l 2 then vs 2 else v) w
 opened:l 1=true->l 2=false->∃ t,vs 1=.slice (some ⟨t,0,none⟩) 1 1/\w.cell? ⟨t,0,none⟩=some (.int .u8 91)
 closed:l 5=true->l 6=false->∃ t,vs 5=.slice (some ⟨t,0,none⟩) 1 1/\w.cell? ⟨t,0,none⟩=some (.int .u8 93)/\some t≠Value.ownBlock (if l 4 then vs 4 else if l 2 then vs 2 else v)
 done:l 6=true->Zaa base n xs v w0 ([91]++A++[93]) (vs 6) w
 last:l 7=true->vs 7=vs 6
theorem ST9.lift {q base n:Nat} {v:Value} {xs:List Value} {p0:Int} {p1:Bool} {p2:Int} {p3:ByteArray} {pa:Option Addr} {pn pc:Nat} {pb:Option Addr} {pm pd:Nat} {A:List UInt8} {w0:World} {l:Nat->Bool} {vs:Nat->Value} {w:World} (h:ST9 q base n v xs p0 p1 p2 p3 pa pn pc pb pm pd A w0 l vs w) {i:Nat} (u:Value) (hi:i=0\/i=3):ST9 q base n v xs p0 p1 p2 p3 pa pn pc pb pm pd A w0 (upd l i true) (upd vs i u) w:=by
 have e1:upd l i true 1=l 1:=Zb _ _ (by omega)
 have e2:upd l i true 2=l 2:=Zb _ _ (by omega)
 have e4:upd l i true 4=l 4:=Zb _ _ (by omega)
 have e5:upd l i true 5=l 5:=Zb _ _ (by omega)
 have e6:upd l i true 6=l 6:=Zb _ _ (by omega)
 have e7:upd l i true 7=l 7:=Zb _ _ (by omega)
 have f1:upd vs i u 1=vs 1:=Zb _ _ (by omega)
 have f2:upd vs i u 2=vs 2:=Zb _ _ (by omega)
 have f4:upd vs i u 4=vs 4:=Zb _ _ (by omega)
 have f5:upd vs i u 5=vs 5:=Zb _ _ (by omega)
 have f6:upd vs i u 6=vs 6:=Zb _ _ (by omega)
 have f7:upd vs i u 7=vs 7:=Zb _ _ (by omega)
 exact ⟨by rw [e6,e4,e2,f4,f2];exact h.told,by rw [e1,e2,f1];exact h.opened,by rw [e5,e6,f5,e4,e2,f4,f2];exact h.closed,by rw [e6,f6];exact h.done,by rw [e7,f7,f6];exact h.last⟩
structure BT9 (q base n:Nat) (v:Value) (xs:List Value) (p0:Int) (p1:Bool) (p2:Int) (p3:ByteArray) (pa:Option Addr) (pn pc:Nat) (pb:Option Addr) (pm pd:Nat) (A:List UInt8) (w0:World) (c:Act):Prop where
 t0:c.eval (.tmp 0)=v
 t3:c.eval (.tmp 3)=.pointer (some ⟨q,0,none⟩)
 size:c.tmps.size=63
structure WT9 (q base n:Nat) (v:Value) (xs:List Value) (p0:Int) (p1:Bool) (p2:Int) (p3:ByteArray) (pa:Option Addr) (pn pc:Nat) (pb:Option Addr) (pm pd:Nat) (A:List UInt8) (w0:World):Prop where
 box:w0.heap[q]?=some (.cells #[.int .i64 p0,.bool p1,.int .i64 p2,.string p3,.slice pa pn pc,.slice pb pm pd] 88 (0,0))
 own:w0.ownsRow base 5 1 v n xs
 few:n+A.length<=1000000000
 low:base<=w0.heap.size
 call:∀ u a6 m w,w.ownsRow base 5 1 u m a6->base<=w.heap.size->Below base w0 w->m<=n+1->Calls Tryz.prog 204 #[u,.agg #[.int .i64 p0,.bool p1,.int .i64 p2,.string p3,.slice pa pn pc,.slice pb pm pd]] w fun e w'=>∃ v',e=.returned v'/\Zaa base m a6 u w A v' w'
def Zjv (q base n:Nat) (v:Value) (xs:List Value) (p0:Int) (p1:Bool) (p2:Int) (p3:ByteArray) (pa:Option Addr) (pn pc:Nat) (pb:Option Addr) (pm pd:Nat) (A:List UInt8) (w0:World) (Q:Exit->Act->World->Prop) (i:Nat):Prop:=∀ (l:Nat->Bool) (c:Act) (w:World),(BT9 q base n v xs p0 p1 p2 p3 pa pn pc pb pm pd A w0 c)->(WT9 q base n v xs p0 p1 p2 p3 pa pn pc pb pm pd A w0)->(l i=false)->(∀ k,l k=true->∀ j ∈ Zyw k,l j=true)->(∀ j ∈ Zyw i,l j=true/\gT9 v p0 p1 p2 p3 pa pn pc pb pm pd j (val RT9 c j))->(ST9 q base n v xs p0 p1 p2 p3 pa pn pc pb pm pd A w0 l (val RT9 c) w)->Zd2 Tryz.prog RT9 Q (gT9 v p0 p1 p2 p3 pa pn pc pb pm pd) (ST9 q base n v xs p0 p1 p2 p3 pa pn pc pb pm pd A w0) i l c w
theorem Jcz {i:Nat} {o:Oper} {c:Act} (B:RT9[i]?=some o) (h:o.guard=none):Region.wanted o (yielded RT9 c.tmps)=true:=Zf h
section
variable (q base n:Nat) (v:Value) (xs:List Value) (p0:Int) (p1:Bool) (p2:Int) (p3:ByteArray) (pa:Option Addr) (pn pc:Nat) (pb:Option Addr) (pm pd:Nat) (A:List UInt8) (w0:World) (Q:Exit->Act->World->Prop)
set_option maxRecDepth 10000 in
theorem Jic:Zjv q base n v xs p0 p1 p2 p3 pa pn pc pb pm pd A w0 Q 0:=by
 intro l c w hb x b r C y
 have B:RT9[0]?=some (⟨some 27,.move (.tmp 0),116, "text.go:48",#[],none⟩:Oper):=by kernel_rfl
 have e0:=hb.t0
 have E:=Jcz (c:=c) B rfl
 have ec:∀ v,c.eval (.const v)=v:=fun _=>rfl
 have ef:∀ f,c.eval (.func f)=.func (.func f) #[] #[]:=fun _=>rfl
 refine Zr (d:=27) B rfl (by rw [hb.size];decide) E (v:=v) ?_ rfl (y.lift _ (by decide))
 generalize c.eval=ρ at *
 clear C hb x E B y r b
 go_simp
set_option maxRecDepth 10000 in
theorem Jid:Zjv q base n v xs p0 p1 p2 p3 pa pn pc pb pm pd A w0 Q 1:=by
 intro l c w hb x b r C y
 have B:RT9[1]?=some (⟨some 28,.buildSlice 116 1 #[(0,.const (Value.int .u8 91))],116, "text.go:48",#[],none⟩:Oper):=by kernel_rfl
 have E:=Jcz (c:=c) B rfl
 have ec:∀ v,c.eval (.const v)=v:=fun _=>rfl
 have ef:∀ f,c.eval (.func f)=.func (.func f) #[] #[]:=fun _=>rfl
 have n2:l 2=false:=by
  cases h:l 2 with
  | false=>rfl
  | true=>have:=r 2 h 1 (by decide);rw [b] at this;cases this
 have n4:l 4=false:=by
  cases h:l 4 with
  | false=>rfl
  | true=>have:=r 4 h 1 (by decide);rw [b] at this;cases this
 have n6:l 6=false:=by
  cases h:l 6 with
  | false=>rfl
  | true=>have:=r 6 h 1 (by decide);rw [b] at this;cases this
 have s:=y.told n6
 have N:Below w.heap.size w (w.alloc (.cells #[.int .u8 91] 5)):=(Below.refl _ _).alloc (Nat.le_refl _) _
 refine Zr (d:=28) B rfl (by rw [hb.size];decide) E (v:=.slice (some ⟨w.heap.size,0,none⟩) 1 1) (w':=w.alloc (.cells #[.int .u8 91] 5)) ?_ ⟨_,rfl⟩ ?_
 ·generalize c.eval=ρ at *
  clear C hb x E B y r b s
  go_simp
 ·have a0:some w.heap.size≠Value.ownBlock (if l 4 then val RT9 c 4 else if l 2 then val RT9 c 2 else v):=fun e=>by
   have:=(s.own.lt _ e.symm).2
   omega
  refine ⟨fun _=>?_,fun _ _=>⟨w.heap.size,by rw [Ja],Zh _ _ _ 0 _ rfl⟩,fun X _=>?_,fun h=>?_,fun h=>?_⟩
  ·rw [Zb _ _ (show (4:Nat)≠1 by decide),Zb _ _ (show (2:Nat)≠1 by decide),Zb _ _ (show (4:Nat)≠1 by decide),Zb _ _ (show (2:Nat)≠1 by decide)]
   exact s.upto N
  ·rw [Zb _ _ (by decide)] at X
   obtain ⟨t,R,D,M⟩:=y.closed X n6
   rw [Zb _ _ (show (4:Nat)≠1 by decide),Zb _ _ (show (2:Nat)≠1 by decide),Zb _ _ (show (4:Nat)≠1 by decide),Zb _ _ (show (2:Nat)≠1 by decide),Zb _ _ (show (5:Nat)≠1 by decide)]
   exact ⟨t,R,(N.cell (p:=⟨t,0,none⟩) (Jj D)).trans D,M⟩
  ·rw [Zb _ _ (by decide),n6] at h;cases h
  ·rw [Zb _ _ (by decide)] at h
   have:=r 7 h 6 (by decide)
   rw [n6] at this;cases this
set_option maxRecDepth 10000 in
theorem Jie:Zjv q base n v xs p0 p1 p2 p3 pa pn pc pb pm pd A w0 Q 2:=by
 intro l c w hb x b r C y
 have B:RT9[2]?=some (⟨some 29,.call { callee:=.builtin .append,args:=#[.tmp 27,.tmp 28],argTypes:=#[116,116] },116, "text.go:48",#[⟨0,.data⟩,⟨1,.data⟩],none⟩:Oper):=by kernel_rfl
 have a9:c.eval (.tmp 27)=v:=by have h:=(C 0 (by decide)).2;rw [Jl (show Zo RT9 0=some 27 by kernel_rfl)] at h;exact h
 have a8:c.eval (.tmp 28)=val RT9 c 1:=(Jl (show Zo RT9 1=some 28 by kernel_rfl)).symm
 have E:=Jcz (c:=c) B rfl
 have ec:∀ v,c.eval (.const v)=v:=fun _=>rfl
 have ef:∀ f,c.eval (.func f)=.func (.func f) #[] #[]:=fun _=>rfl
 have n4:l 4=false:=by
  cases h:l 4 with
  | false=>rfl
  | true=>have:=r 4 h 2 (by decide);rw [b] at this;cases this
 have n6:l 6=false:=by
  cases h:l 6 with
  | false=>rfl
  | true=>have:=r 6 h 2 (by decide);rw [b] at this;cases this
 have s:=y.told n6
 rw [n4,b] at s
 simp only [Bool.false_eq_true,if_false] at s
 obtain ⟨t,ht,F⟩:=y.opened (C 1 (by decide)).1 b
 obtain ⟨i0,hi,a3,a2,a1⟩:=info_parts Tryz.info5
 have a5:w.ownsRow base 5 1 v n xs:=by have:=s.own;simpa [byteCells] using this
 have I:=s.grown.size
 refine Zbw (d:=29) B rfl (by rw [hb.size];decide) fun K hK=>?_
 refine step_append_lies w rfl (.tmp 27) (.tmp 28) 116 rfl base 5 i0 (.int .u8 0) 1 1 Tryz.underlying116 hi a3 a2 a1 rfl (by decide) v n xs a9 a5 ⟨t,0,none⟩ 1 1 [.int .u8 91] (a8.trans ht) rfl ?_ ?_ (by decide) (by have:=x.few;unfold maxLen;omega) (by have:=x.few;omega) (Nat.le_trans x.low I) w.heap.size rfl ?_
 ·intro j u T
  match j,T with
  | 0,T =>
   simp only [List.getElem?_cons_zero,Option.some.injEq] at T
   subst T
   rw [Lib.add_plain];exact F
 ·intro u hu
  simp only [List.mem_cons,List.not_mem_nil,or_false] at hu
  subst hu;rfl
 ·intro g cap w' g1 g2 L g4
  have O:Zaa base n xs v w [91] (.slice (some ⟨g,0,none⟩) (n+1) cap) w':=⟨g1,g2,L.elim (fun e=>.inl e.symm) fun e=>.inr ⟨g,rfl,by omega⟩⟩
  have H:Zaa base n xs v w0 [91] (.slice (some ⟨g,0,none⟩) (n+1) cap) w':=by
   have R:Zaa base n xs v w0 [] v w:=s
   have D:=R.trans (v2:=.slice (some ⟨g,0,none⟩) (n+1) cap) (w2:=w') (cs:=[91]) (by simpa [byteCells] using O)
   simpa using D
  refine hK _ _ trivial ⟨fun _=>?_,fun _ h=>?_,fun X _=>?_,fun h=>?_,fun h=>?_⟩
  ·rw [Zb _ _ (show (4:Nat)≠2 by decide),n4,Ja,Ja]
   exact H
  ·rw [Ja] at h;cases h
  ·rw [Zb _ _ (by decide)] at X
   obtain ⟨P,R,D,M⟩:=y.closed X n6
   rw [n4,b] at M
   rw [Zb _ _ (show (4:Nat)≠2 by decide),n4,Ja,Ja,Zb _ _ (show (5:Nat)≠2 by decide)]
   refine ⟨P,R,(World.cell?_of_block (g2.block P (Jj D) M)).trans D,fun e=>?_⟩
   have e':P=g:=by simpa [Value.ownBlock] using e
   have:=Jj D
   have b4:P<w.heap.size:=this
   rcases L with L | L
   ·exact M (by rw [e'];exact L.symm)
   ·omega
  ·rw [Zb _ _ (by decide),n6] at h;cases h
  ·rw [Zb _ _ (by decide)] at h
   have:=r 7 h 6 (by decide)
   rw [n6] at this;cases this
set_option maxRecDepth 10000 in
theorem Jif:Zjv q base n v xs p0 p1 p2 p3 pa pn pc pb pm pd A w0 Q 3:=by
 intro l c w hb x b r C y
 have B:RT9[3]?=some (⟨some 30,.load 88 (.tmp 3),88, "text.go:48",#[],none⟩:Oper):=by kernel_rfl
 have e3:=hb.t3
 have E:=Jcz (c:=c) B rfl
 have ec:∀ v,c.eval (.const v)=v:=fun _=>rfl
 have ef:∀ f,c.eval (.func f)=.func (.func f) #[] #[]:=fun _=>rfl
 have n4:l 4=false:=by
  cases h:l 4 with
  | false=>rfl
  | true=>have:=r 4 h 3 (by decide);rw [b] at this;cases this
 have n6:l 6=false:=by
  cases h:l 6 with
  | false=>rfl
  | true=>have:=r 6 h 3 (by decide);rw [b] at this;cases this
 obtain ⟨y0,y1,y2,y3,y4,y5⟩:=boxes (y.told n6) x.own x.box
 refine Zr (d:=30) B rfl (by rw [hb.size];decide) E (v:=.agg #[.int .i64 p0,.bool p1,.int .i64 p2,.string p3,.slice pa pn pc,.slice pb pm pd]) ?_ rfl (y.lift _ (by decide))
 generalize c.eval=ρ at *
 clear C hb x E B y r b
 go_simp
set_option maxRecDepth 10000 in
theorem Jig:Zjv q base n v xs p0 p1 p2 p3 pa pn pc pb pm pd A w0 Q 4:=by
 intro l c w hb x b r C y
 have B:RT9[4]?=some (⟨some 31,.call { callee:=.value (.func 204),args:=#[.tmp 29,.tmp 30],argTypes:=#[116,88] },116, "text.go:48",#[⟨2,.data⟩,⟨3,.data⟩,⟨2,.chain⟩],none⟩:Oper):=by kernel_rfl
 have b3:c.eval (.tmp 29)=val RT9 c 2:=(Jl (show Zo RT9 2=some 29 by kernel_rfl)).symm
 have b1:c.eval (.tmp 30)=.agg #[.int .i64 p0,.bool p1,.int .i64 p2,.string p3,.slice pa pn pc,.slice pb pm pd]:=by have h:=(C 3 (by decide)).2;rw [Jl (show Zo RT9 3=some 30 by kernel_rfl)] at h;exact h
 have E:=Jcz (c:=c) B rfl
 have ec:∀ v,c.eval (.const v)=v:=fun _=>rfl
 have ef:∀ f,c.eval (.func f)=.func (.func f) #[] #[]:=fun _=>rfl
 have n6:l 6=false:=by
  cases h:l 6 with
  | false=>rfl
  | true=>have:=r 6 h 4 (by decide);rw [b] at this;cases this
 have D:l 2=true:=(C 2 (by decide)).1
 have s:=y.told n6
 rw [b,D] at s
 simp only [Bool.false_eq_true,if_false,if_true] at s
 have I:=s.grown.size
 refine Zgn (d:=31) B rfl (by rw [hb.size];decide) E (f:=204) (args:=#[val RT9 c 2,.agg #[.int .i64 p0,.bool p1,.int .i64 p2,.string p3,.slice pa pn pc,.slice pb pm pd]]) ?_ ?_
 ·generalize val RT9 c 2=z at *
  generalize c.eval=ρ at *
  clear C hb x E B y r b s
  go_simp
 ·refine (x.call _ _ _ w s.own (Nat.le_trans x.low I) (s.below x.own x.low) (Nat.le_refl _)).mono ?_
  rintro e w' ⟨v',rfl,ht⟩
  refine ⟨v',rfl,trivial,⟨fun _=>?_,fun _ h=>?_,fun X _=>?_,fun h=>?_,fun h=>?_⟩⟩
  ·rw [Ja,Ja]
   exact s.trans ht
  ·rw [Zb _ _ (by decide),D] at h;cases h
  ·rw [Zb _ _ (by decide)] at X
   obtain ⟨P,R,V,M⟩:=y.closed X n6
   rw [b,D] at M
   rw [Ja,Ja,Zb _ _ (show (5:Nat)≠4 by decide)]
   refine ⟨P,R,(World.cell?_of_block (ht.grown.block P (Jj V) M)).trans V,fun e=>?_⟩
   have b5:P<w.heap.size:=Jj V
   rcases ht.place with L | ⟨g,L,g5⟩
   ·exact M (e.trans L)
   ·have e2:some P=some g:=e.trans L
    have:P=g:=by simpa using e2
    omega
  ·rw [Zb _ _ (by decide),n6] at h;cases h
  ·rw [Zb _ _ (by decide)] at h
   have:=r 7 h 6 (by decide)
   rw [n6] at this;cases this
set_option maxRecDepth 10000 in
theorem Jih:Zjv q base n v xs p0 p1 p2 p3 pa pn pc pb pm pd A w0 Q 5:=by
 intro l c w hb x b r C y
 have B:RT9[5]?=some (⟨some 32,.buildSlice 116 1 #[(0,.const (Value.int .u8 93))],116, "text.go:48",#[],none⟩:Oper):=by kernel_rfl
 have E:=Jcz (c:=c) B rfl
 have ec:∀ v,c.eval (.const v)=v:=fun _=>rfl
 have ef:∀ f,c.eval (.func f)=.func (.func f) #[] #[]:=fun _=>rfl
 have n6:l 6=false:=by
  cases h:l 6 with
  | false=>rfl
  | true=>have:=r 6 h 5 (by decide);rw [b] at this;cases this
 have s:=y.told n6
 have N:Below w.heap.size w (w.alloc (.cells #[.int .u8 93] 5)):=(Below.refl _ _).alloc (Nat.le_refl _) _
 refine Zr (d:=32) B rfl (by rw [hb.size];decide) E (v:=.slice (some ⟨w.heap.size,0,none⟩) 1 1) (w':=w.alloc (.cells #[.int .u8 93] 5)) ?_ ⟨_,rfl⟩ ?_
 ·generalize c.eval=ρ at *
  clear C hb x E B y r b s
  go_simp
 ·have a0:some w.heap.size≠Value.ownBlock (if l 4 then val RT9 c 4 else if l 2 then val RT9 c 2 else v):=fun e=>by
   have:=(s.own.lt _ e.symm).2
   omega
  refine ⟨fun _=>?_,fun R D=>?_,fun _ _=>⟨w.heap.size,by rw [Ja],Zh _ _ _ 0 _ rfl,?_⟩,fun h=>?_,fun h=>?_⟩
  ·rw [Zb _ _ (show (4:Nat)≠5 by decide),Zb _ _ (show (2:Nat)≠5 by decide),Zb _ _ (show (4:Nat)≠5 by decide),Zb _ _ (show (2:Nat)≠5 by decide)]
   exact s.upto N
  ·rw [Zb _ _ (by decide)] at R D
   obtain ⟨t,M,V⟩:=y.opened R D
   rw [Zb _ _ (by decide)]
   exact ⟨t,M,(N.cell (p:=⟨t,0,none⟩) (Jj V)).trans V⟩
  ·rw [Zb _ _ (show (4:Nat)≠5 by decide),Zb _ _ (show (2:Nat)≠5 by decide),Zb _ _ (show (4:Nat)≠5 by decide),Zb _ _ (show (2:Nat)≠5 by decide)]
   exact a0
  ·rw [Zb _ _ (by decide),n6] at h;cases h
  ·rw [Zb _ _ (by decide)] at h
   have:=r 7 h 6 (by decide)
   rw [n6] at this;cases this
set_option maxRecDepth 10000 in
theorem Jii:Zjv q base n v xs p0 p1 p2 p3 pa pn pc pb pm pd A w0 Q 6:=by
 intro l c w hb x b r C y
 have B:RT9[6]?=some (⟨some 33,.call { callee:=.builtin .append,args:=#[.tmp 31,.tmp 32],argTypes:=#[116,116] },116, "text.go:48",#[⟨4,.data⟩,⟨5,.data⟩,⟨4,.chain⟩],none⟩:Oper):=by kernel_rfl
 have b0:c.eval (.tmp 31)=val RT9 c 4:=(Jl (show Zo RT9 4=some 31 by kernel_rfl)).symm
 have a7:c.eval (.tmp 32)=val RT9 c 5:=(Jl (show Zo RT9 5=some 32 by kernel_rfl)).symm
 have E:=Jcz (c:=c) B rfl
 have ec:∀ v,c.eval (.const v)=v:=fun _=>rfl
 have ef:∀ f,c.eval (.func f)=.func (.func f) #[] #[]:=fun _=>rfl
 have V:l 4=true:=(C 4 (by decide)).1
 have D:l 2=true:=(C 2 (by decide)).1
 have s:=y.told b
 rw [V] at s
 simp only [if_true] at s
 obtain ⟨t,ht,F,a0⟩:=y.closed (C 5 (by decide)).1 b
 obtain ⟨i0,hi,a3,a2,a1⟩:=info_parts Tryz.info5
 have I:=s.grown.size
 have Y:([91]++A).length=A.length+1:=by simp
 refine Zbw (d:=33) B rfl (by rw [hb.size];decide) fun K hK=>?_
 refine step_append_lies w rfl (.tmp 31) (.tmp 32) 116 rfl base 5 i0 (.int .u8 0) 1 1 Tryz.underlying116 hi a3 a2 a1 rfl (by decide) _ (n+([91]++A).length) _ b0 s.own ⟨t,0,none⟩ 1 1 [.int .u8 93] (a7.trans ht) rfl ?_ ?_ (by decide) (by have:=x.few;rw [Y];unfold maxLen;omega) (by have:=x.few;rw [Y];omega) (Nat.le_trans x.low I) w.heap.size rfl ?_
 ·intro j u T
  match j,T with
  | 0,T =>
   simp only [List.getElem?_cons_zero,Option.some.injEq] at T
   subst T
   rw [Lib.add_plain];exact F
 ·intro u hu
  simp only [List.mem_cons,List.not_mem_nil,or_false] at hu
  subst hu;rfl
 ·intro g cap w' g1 g2 L g4
  have O:Zaa base (n+([91]++A).length) (xs++byteCells ([91]++A)) (val RT9 c 4) w [93] (.slice (some ⟨g,0,none⟩) (n+([91]++A).length+1) cap) w':=⟨g1,g2,L.elim (fun e=>.inl e.symm) fun e=>.inr ⟨g,rfl,by omega⟩⟩
  refine hK _ _ trivial ⟨fun h=>?_,fun _ h=>?_,fun _ h=>?_,fun _=>?_,fun h=>?_⟩
  ·rw [Ja] at h;cases h
  ·rw [Zb _ _ (by decide),D] at h;cases h
  ·rw [Ja] at h;cases h
  ·rw [Ja]
   exact s.trans O
  ·rw [Zb _ _ (by decide)] at h
   have:=r 7 h 6 (by decide)
   rw [b] at this;cases this
set_option maxRecDepth 10000 in
theorem Jij:Zjv q base n v xs p0 p1 p2 p3 pa pn pc pb pm pd A w0 Q 7:=by
 intro l c w hb x b r C y
 have B:RT9[7]?=some (⟨some 4,.assign (.tmp 33),116, "text.go:48",#[⟨6,.data⟩,⟨6,.chain⟩,⟨0,.phase⟩,⟨1,.phase⟩,⟨2,.phase⟩,⟨3,.phase⟩,⟨4,.phase⟩,⟨5,.phase⟩,⟨6,.phase⟩],none⟩:Oper):=by kernel_rfl
 have b2:c.eval (.tmp 33)=val RT9 c 6:=(Jl (show Zo RT9 6=some 33 by kernel_rfl)).symm
 have E:=Jcz (c:=c) B rfl
 have ec:∀ v,c.eval (.const v)=v:=fun _=>rfl
 have ef:∀ f,c.eval (.func f)=.func (.func f) #[] #[]:=fun _=>rfl
 have h6:l 6=true:=(C 6 (by decide)).1
 have D:l 2=true:=(C 2 (by decide)).1
 refine Zr (d:=4) B rfl (by rw [hb.size];decide) E (v:=val RT9 c 6) (w':=w) ?_ trivial ⟨fun h=>?_,fun _ h=>?_,fun _ h=>?_,fun _=>?_,fun _=>?_⟩
 ·generalize val RT9 c 6=z at *
  generalize c.eval=ρ at *
  clear C hb x E B y r b
  go_simp
 ·rw [Zb _ _ (by decide),h6] at h;cases h
 ·rw [Zb _ _ (by decide),D] at h;cases h
 ·rw [Zb _ _ (by decide),h6] at h;cases h
 ·rw [Zb _ _ (by decide)];exact y.done h6
 ·rw [Ja,Zb _ _ (by decide)]
end
set_option maxRecDepth 100000 in
theorem Jik (q base n:Nat) (v:Value) (xs:List Value) (p0:Int) (p1:Bool) (p2:Int) (p3:ByteArray) (pa:Option Addr) (pn pc:Nat) (pb:Option Addr) (pm pd:Nat) (A:List UInt8) (w0:World) (Q:Exit->Act->World->Prop) (x:WT9 q base n v xs p0 p1 p2 p3 pa pn pc pb pm pd A w0):∀ i,i<8->(fun i=>∀ l c w,BT9 q base n v xs p0 p1 p2 p3 pa pn pc pb pm pd A w0 c->l i=false->(∀ k,l k=true->∀ j ∈ Zyw k,l j=true)->(∀ j ∈ Zyw i,l j=true/\gT9 v p0 p1 p2 p3 pa pn pc pb pm pd j (val RT9 c j))->ST9 q base n v xs p0 p1 p2 p3 pa pn pc pb pm pd A w0 l (val RT9 c) w->Zd2 Tryz.prog RT9 Q (gT9 v p0 p1 p2 p3 pa pn pc pb pm pd) (ST9 q base n v xs p0 p1 p2 p3 pa pn pc pb pm pd A w0) i l c w) i:=by
 refine Ju ?_ (fun l c w hb=>Jij q base n v xs p0 p1 p2 p3 pa pn pc pb pm pd A w0 Q l c w hb x)
 refine Ju ?_ (fun l c w hb=>Jii q base n v xs p0 p1 p2 p3 pa pn pc pb pm pd A w0 Q l c w hb x)
 refine Ju ?_ (fun l c w hb=>Jih q base n v xs p0 p1 p2 p3 pa pn pc pb pm pd A w0 Q l c w hb x)
 refine Ju ?_ (fun l c w hb=>Jig q base n v xs p0 p1 p2 p3 pa pn pc pb pm pd A w0 Q l c w hb x)
 refine Ju ?_ (fun l c w hb=>Jif q base n v xs p0 p1 p2 p3 pa pn pc pb pm pd A w0 Q l c w hb x)
 refine Ju ?_ (fun l c w hb=>Jie q base n v xs p0 p1 p2 p3 pa pn pc pb pm pd A w0 Q l c w hb x)
 refine Ju ?_ (fun l c w hb=>Jid q base n v xs p0 p1 p2 p3 pa pn pc pb pm pd A w0 Q l c w hb x)
 refine Ju ?_ (fun l c w hb=>Jic q base n v xs p0 p1 p2 p3 pa pn pc pb pm pd A w0 Q l c w hb x)
 exact Zmj
theorem Jbu (q base n:Nat) (v:Value) (xs:List Value) (p0:Int) (p1:Bool) (p2:Int) (p3:ByteArray) (pa:Option Addr) (pn pc:Nat) (pb:Option Addr) (pm pd:Nat) (A:List UInt8) (w0:World) (Q:Exit->Act->World->Prop) (frame:Act) (hb:BT9 q base n v xs p0 p1 p2 p3 pa pn pc pb pm pd A w0 frame) (x:WT9 q base n v xs p0 p1 p2 p3 pa pn pc pb pm pd A w0)
  (hQ:∀ c v' W,Zl2 RT9 frame c->c.eval (.tmp 4)=v'->Zaa base n xs v w0 ([91]++A++[93]) v' W->Q .normal c W) :
  (Code.region 9 RT9 true).wp Tryz.prog Q frame w0:=by
 refine Zdk (A:=Zyw) (G:=gT9 v p0 p1 p2 p3 pa pn pc pb pm pd) (S:=ST9 q base n v xs p0 p1 p2 p3 pa pn pc pb pm pd A w0) (by kernel_rfl) (by rw [hb.size];kernel_rfl) ?_ ?_ ?_
 ·exact ⟨fun _=>(Zdf x.own).upto (Below.refl _ _).drew,(fun h=>by cases h),(fun h=>by cases h),(fun h=>by cases h),(fun h=>by cases h)⟩
 ·intro i hi l c w y b r C U
  exact Jik q base n v xs p0 p1 p2 p3 pa pn pc pb pm pd A w0 Q x i (by rwa [show RT9.size=8 by kernel_rfl] at hi) l c w ⟨(Za2 y (by kernel_rfl)).trans hb.t0,(Za2 y (by kernel_rfl)).trans hb.t3,y.2.1.trans hb.size⟩ b r C U
 ·intro l c w y H U
  have a4:RT9.size=8:=by kernel_rfl
  have h7:=U.last (H 7 (by rw [a4];omega)).1
  have h6:=U.done (H 6 (by rw [a4];omega)).1
  have e7:c.eval (.tmp 4)=val RT9 c 7:=(Jl (show Zo RT9 7=some 4 by kernel_rfl)).symm
  exact hQ c _ w y (e7.trans h7) h6
end Go.Proofs.YthfilnflgahcjaaGreatDoor

