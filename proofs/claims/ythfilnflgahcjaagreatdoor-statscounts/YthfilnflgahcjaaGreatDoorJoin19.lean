/- The rules of a graph: the program's word. A graph's types, counted. A graph's labels, counted. -/
import Derived.Test.YthfilnflgahcjaaGreatDoorJoin18
import Derived.Test.YthfilnflgahcjaaGreatDoorJoin9
import Derived.Deep.RegionWith
import Derived.Test.YthfilnflgahcjaaGreatDoorJoin7
import Derived.Test.YthfilnflgahcjaaGreatDoorJoin8
namespace Go.Proofs.YthfilnflgahcjaaGreatDoor
open Go.RowKit Go.Shelf
set_option linter.all false
attribute [local go_sem] Oper.semAt_some
def Zhf:List (ByteArray × Zd)->Bool
 | []=>true
 | q::r=>(decide (Zbg q.2=0)&&Zsb q.2)&&Zhf r
theorem Zx1 {T:List (ByteArray × Zd)} {j:Nat} {q:ByteArray × Zd} (h:T[j]?=some q):Zhf (T.drop j)=((decide (Zbg q.2=0)&&Zsb q.2)&&Zhf (T.drop (j+1))):=by
 obtain ⟨hj,l⟩:=List.getElem?_eq_some_iff.1 h
 rw [List.drop_eq_getElem_cons hj,l,Zhf]
def Zlg (T:List (ByteArray × Zd)):Bool:=Zhf T&&nrB ⟨#[]⟩ (T.map Prod.fst)
set_option maxRecDepth 100000 in
set_option maxHeartbeats 4000000 in
theorem Zty (v:Value) (T:List (ByteArray × Zd)) (B:Nat) (w:World) (hB:B<=w.heap.size) (hE:Env w) (hp:Zbq B w v T) (hs:∀ q ∈ T,q.1.size<=140737488355328/\Zs4 q.2) :
  Calls Tryz.prog 135 #[v] w fun e w'=>e=.returned (.bool (Zlg T))/\Below w.heap.size w w':=by
 have HS:=Za hs
 have HE:=Za hE
 obtain ⟨pa,pc,rfl,h1,h2,z⟩:=hp
 have HP:=Za z
 have a8:Hid (∀ W,Below w.heap.size w W->Calls Tryz.prog 155 #[.slice pa T.length pc,.func (.func 156) #[] #[]] W fun e w'=>e=.returned (.bool (nrB ⟨#[]⟩ (T.map Prod.fst)))/\Below W.heap.size W w'):=fun W hb =>
  Jb6 T B pa pc W (by have:=hb.size;omega) (HE.out.below hb HE.out.room) (z.imp id fun ⟨bl,off,e,hl,hc⟩=>⟨bl,off,e,hl,fun i q hi=>(hc i q hi).below (hb.mono hB) hl⟩) h1 h2 (fun q hq=>(hs q hq).1)
 obtain ⟨d,c⟩:∃ r,Zlg T=r:=⟨_,rfl⟩
 rw [c]
 unfold Zlg at c
 obtain ⟨kb,b5⟩:∃ r,nrB ⟨#[]⟩ (T.map Prod.fst)=r:=⟨_,rfl⟩
 rw [b5] at a8 c
 have HR:=Za c
 obtain ⟨n,hn⟩:∃ n,T.length=n:=⟨_,rfl⟩
 have HN:=Za hn
 rw [hn] at h1 a8 |-
 clear z hs hn c hE b5
 go_enter Tryz.func135,Tryz.ntmps135
 go_wp2_with fail
 go_loopw [7] (fun i wr=>∃ j:Nat,j<=n/\i=.int .i64 j/\Below w.heap.size w wr/\(Zhf (T.drop j)&&kb)=d) (fun i _=>n - (intOf i).toNat)
 case atStart=>exact ⟨0,Nat.zero_le _,rfl,Below.refl _ _,HR.out⟩
 case round =>
  obtain ⟨j,hj,rfl,k,I⟩:=hrel
  have u:=Za k
  have G:=Za I
  have a4:w.heap.size<=wr.heap.size:=k.size
  clear k I
  by_cases hlt:j<n
  ·have y:(j:Int)<n:=by omega
   obtain ⟨⟨x,⟨tk,tb,tn,ts,a6,a5⟩⟩,l⟩:∃ x,T[j]?=some x:=⟨_,List.getElem?_eq_getElem (by have:=HN.out;omega)⟩
   have HX:=Za l
   obtain ⟨bl,off,rfl,U,hc⟩:=HP.out.resolve_left (by intro e;rw [e] at l;simp at l)
   obtain ⟨cx,_,v0,v1,v2,v3,v4,v5,⟨c0,c1,c2,c3,c4,c5⟩,hv⟩:=(hc j _ l).below (u.out.mono hB) U
   have b1:=(HS.out _ (List.mem_of_getElem? l)).2
   simp only at cx hv b1
   have b8:=hv
   simp only [Zb6] at hv
   obtain ⟨b6,c6,b7,b9,b3,_⟩:=hv
   obtain ⟨rfl,rfl,rfl,rfl,rfl,rfl⟩:v0=.int .i64 tk/\v1=.bool tb/\v2=.int .i64 tn/\v3=.string ts/\v4=.slice b6 a6.length c6/\v5=.slice b7 a5.length b9:=by
    simpa using b3
   have b4:=Za (fun W (hb:Below wr.heap.size wr W)=>Zp0 _ B _ W (by have:=hb.size;omega) (b8.below (hb.mono (by omega))) (HE.out.below (Zm u.out hb) HE.out.room).tabs b1)
   obtain ⟨sb,a7⟩:∃ r,(decide (Zbg (.mk tk tb tn ts a6 a5)=0)&&Zsb (.mk tk tb tn ts a6 a5))=r:=⟨_,rfl⟩
   rw [a7] at b4
   have K:Hid (d=((sb&&Zhf (T.drop (j+1)))&&kb)):=by
    show _=_
    rw [<- G.out,Zx1 HX.out]
    simp only
    rw [a7]
   clear hc l b3 b8 b1 a7
   go_upto_region 4 with fail
   generalize p:World.alloc _ _=W2
   have f:=Zk wr #[.string x,.int .i64 tk,.bool tb,.int .i64 tn,.string ts,.slice b6 a6.length c6,.slice b7 a5.length b9] 90
   rw [p] at f
   have H:Hid (Below wr.heap.size wr W2):=by rw [<- p];exact (Below.refl _ _).alloc (Nat.le_refl _) _
   have k1:=f.cell 1 rfl
   have k2:=f.cell 2 rfl
   have k3:=f.cell 3 rfl
   have k4:=f.cell 4 rfl
   have k5:=f.cell 5 rfl
   have k6:=f.cell 6 rfl
   clear p f cx c0 c1 c2 c3 c4 c5
   go_wp2_with fail
   refine (b4.out W2 H.out).mono ?_
   rintro e w3 ⟨rfl,s⟩
   have t:=Za (Zm u.out (Zm H.out s))
   clear s k1 k2 k3 k4 k5 k6
   cases sb with
   | false =>
    have Y:Hid (d=false):=K.out
    go_wp2_with fail
    go_ret
    exact ⟨by rw [Y.out];rfl,t.out⟩
   | true =>
    have X:Hid ((Zhf (T.drop (j+1))&&kb)=d):=K.out.symm
    go_wp2_with fail
    go_roundw
    case rel=>exact ⟨j+1,by omega,by go_num,t.out,X.out⟩
    case measure=>simp [intOf];omega
  ·have Y:Hid (d=kb):=by
    show _=_
    rw [<- G.out,List.drop_of_length_le (by have:=HN.out;omega)];rfl
   have y:¬ (j:Int)<n:=by omega
   go_wp2_with fail
   refine (a8.out wr u.out).mono ?_
   rintro e w3 ⟨rfl,s⟩
   have t:=Za (Zm u.out s)
   clear s
   go_wp2_with fail
   go_ret
   exact ⟨by rw [Y.out];rfl,t.out⟩
structure Jbj (g:Zx):Prop where
 nodes:g.nodes.length<=2000000
 rels:g.rels.length<=2000000
 ofNode:∀ n ∈ g.nodes,(∀ x ∈ n.labels,x.size<=140737488355328)/\∀ q ∈ n.props,q.1.size<=140737488355328/\Zs4 q.2
 ofRel:∀ r ∈ g.rels,r.type.size<=140737488355328/\∀ q ∈ r.props,q.1.size<=140737488355328/\Zs4 q.2
set_option maxRecDepth 100000 in
set_option maxHeartbeats 4000000 in
theorem Jbk (g:Zx) (B:Nat) (v:Value) (w:World) (hB:B<=w.heap.size) (hE:Env w) (hg:Zp B w v g) (hz:Jbj g):Calls Tryz.prog 100 #[v] w fun e w'=>e=.returned (.bool (decide ((g.nodes.length:Int)+(g.rels.length:Int)<=65536)))/\Below w.heap.size w w':=by
 obtain ⟨na,nc,ra,rc,rfl,hn,hr⟩:=hg
 obtain ⟨R,P,F,D⟩:=hz
 have HE:=Za hE
 obtain ⟨d,c⟩:∃ r,decide ((g.nodes.length:Int)+(g.rels.length:Int)<=65536)=r:=⟨_,rfl⟩
 have HR:=Za c
 rw [c]
 clear c hE
 obtain ⟨ns,rs,nn,nr⟩:=g
 simp only at hn hr R P F D HR |-
 obtain ⟨a',c',e1,h1,h2,z⟩:=hn
 obtain ⟨rfl,rfl⟩:na=a'/\nc=c':=by injection e1 with e1 _ e2;exact ⟨e1,e2⟩
 obtain ⟨a',c',e2,r1,r2,O⟩:=hr
 obtain ⟨rfl,rfl⟩:ra=a'/\rc=c':=by injection e2 with e1 _ e2;exact ⟨e1,e2⟩
 have HP:=Za z
 have HQ:=Za O
 have a3:=Za F
 have a2:=Za D
 obtain ⟨n,hn⟩:∃ n,ns.length=n:=⟨_,rfl⟩
 have HN:=Za hn
 obtain ⟨m,hm⟩:∃ m,rs.length=m:=⟨_,rfl⟩
 have HM:=Za hm
 rw [hn] at h1 R
 rw [hm] at r1 P
 rw [hn,hm]
 clear z O F D hn hm e1 e2
 have a9:n<=9223372036854775807:=by omega
 have b0:m<=9223372036854775807:=by omega
 go_enter Tryz.func100,Tryz.ntmps100
 go_upto_region 1 with fail
 generalize A:World.alloc _ _=W1
 have o:=Zk w #[.slice na n nc,.slice ra m rc,.int .i64 nn,.int .i64 nr] 25
 rw [A] at o
 have N:Hid (Below w.heap.size w W1):=by rw [<- A];exact (Below.refl _ _).alloc (Nat.le_refl _) _
 have V:=Za o
 have q0:=o.cell 0 rfl
 have q1:=o.cell 1 rfl
 clear A o
 have c8:IntKind.i64.wrap ((n:Int)+(m:Int))=(n:Int)+(m:Int):=by rw [IntKind.wrap_i64];omega
 have S:Hid (decide ((n:Int)+(m:Int)<=65536)=d):=by
  show _=_
  rw [<- HR.out,HN.out,HM.out]
 go_wp2_with fail
 go_ret
 exact ⟨by rw [<- S.out];rfl,N.out⟩
def Zbu:List Zj->Bool
 | []=>true
 | n::r=>nrB ⟨#[]⟩ n.labels&&Zbu r
def Zft:List Zbr->Bool
 | []=>true
 | n::r=>Zfs n.type.data.toList&&Zft r
def Jv:List Zj->Bool
 | []=>true
 | n::r=>Zlg n.props&&Jv r
def Zag:List Zbr->Bool
 | []=>true
 | n::r=>Zlg n.props&&Zag r
theorem Zvo {ns:List Zj} {j:Nat} {n:Zj} (h:ns[j]?=some n):Zbu (ns.drop j)=(nrB ⟨#[]⟩ n.labels&&Zbu (ns.drop (j+1))):=by
 obtain ⟨hj,l⟩:=List.getElem?_eq_some_iff.1 h
 rw [List.drop_eq_getElem_cons hj,l,Zbu]
theorem Zx2 {ns:List Zbr} {j:Nat} {n:Zbr} (h:ns[j]?=some n):Zft (ns.drop j)=(Zfs n.type.data.toList&&Zft (ns.drop (j+1))):=by
 obtain ⟨hj,l⟩:=List.getElem?_eq_some_iff.1 h
 rw [List.drop_eq_getElem_cons hj,l,Zft]
theorem Zog {ns:List Zj} {j:Nat} {n:Zj} (h:ns[j]?=some n):Jv (ns.drop j)=(Zlg n.props&&Jv (ns.drop (j+1))):=by
 obtain ⟨hj,l⟩:=List.getElem?_eq_some_iff.1 h
 rw [List.drop_eq_getElem_cons hj,l,Jv]
theorem Zqf {ns:List Zbr} {j:Nat} {n:Zbr} (h:ns[j]?=some n):Zag (ns.drop j)=(Zlg n.props&&Zag (ns.drop (j+1))):=by
 obtain ⟨hj,l⟩:=List.getElem?_eq_some_iff.1 h
 rw [List.drop_eq_getElem_cons hj,l,Zag]
set_option maxRecDepth 100000 in
set_option maxHeartbeats 4000000 in
theorem Zvp (g:Zx) (B:Nat) (v:Value) (w:World) (hB:B<=w.heap.size) (hE:Env w) (hg:Zp B w v g) (hz:Jbj g):Calls Tryz.prog 102 #[v] w fun e w'=>e=.returned (.bool (Zbu g.nodes))/\Below w.heap.size w w':=by
 obtain ⟨na,nc,ra,rc,rfl,hn,hr⟩:=hg
 obtain ⟨R,P,F,D⟩:=hz
 have HE:=Za hE
 obtain ⟨d,c⟩:∃ r,Zbu g.nodes=r:=⟨_,rfl⟩
 have HR:=Za c
 rw [c]
 clear c hE
 obtain ⟨ns,rs,nn,nr⟩:=g
 simp only at hn hr R P F D HR |-
 obtain ⟨a',c',e1,h1,h2,z⟩:=hn
 obtain ⟨rfl,rfl⟩:na=a'/\nc=c':=by injection e1 with e1 _ e2;exact ⟨e1,e2⟩
 obtain ⟨a',c',e2,r1,r2,O⟩:=hr
 obtain ⟨rfl,rfl⟩:ra=a'/\rc=c':=by injection e2 with e1 _ e2;exact ⟨e1,e2⟩
 have HP:=Za z
 have HQ:=Za O
 have a3:=Za F
 have a2:=Za D
 obtain ⟨n,hn⟩:∃ n,ns.length=n:=⟨_,rfl⟩
 have HN:=Za hn
 obtain ⟨m,hm⟩:∃ m,rs.length=m:=⟨_,rfl⟩
 have HM:=Za hm
 rw [hn] at h1 R
 rw [hm] at r1 P
 rw [hn,hm]
 clear z O F D hn hm e1 e2
 have a9:n<=9223372036854775807:=by omega
 have b0:m<=9223372036854775807:=by omega
 go_enter Tryz.func102,Tryz.ntmps102
 go_upto_region 1 with fail
 generalize A:World.alloc _ _=W1
 have o:=Zk w #[.slice na n nc,.slice ra m rc,.int .i64 nn,.int .i64 nr] 25
 rw [A] at o
 have N:Hid (Below w.heap.size w W1):=by rw [<- A];exact (Below.refl _ _).alloc (Nat.le_refl _) _
 have V:=Za o
 have q0:=o.cell 0 rfl
 clear A o
 have S:=HR
 go_wp2_with fail
 clear q0
 go_loopw [8] (fun i wr=>∃ j:Nat,j<=n/\i=.int .i64 j/\Below W1.heap.size W1 wr/\Zbu (ns.drop j)=d) (fun i _=>n - (intOf i).toNat)
 case atStart=>exact ⟨0,Nat.zero_le _,rfl,Below.refl _ _,S.out⟩
 case round =>
  obtain ⟨j,hj,rfl,k,I⟩:=hrel
  have u:=Za k
  have G:=Za I
  have a4:w.heap.size<wr.heap.size:=by
   have:=V.out.lt
   have:=k.size
   omega
  have E:=Za (Zm N.out k)
  clear k I
  by_cases hlt:j<n
  ·have y:(j:Int)<n:=by omega
   obtain ⟨⟨xi,xl,xp⟩,l⟩:∃ q,ns[j]?=some q:=⟨_,List.getElem?_eq_getElem (by have:=HN.out;omega)⟩
   have HX:=Za l
   obtain ⟨bl,off,rfl,U,hc⟩:=HP.out.resolve_left (by intro e;rw [e] at l;simp at l)
   obtain ⟨la,lc,pv,⟨c0,c1,c2⟩,⟨a0,a1⟩,hk,hp⟩:=(hc j _ l).below (E.out.mono hB) U
   obtain ⟨L,M⟩:=a3.out _ (List.mem_of_getElem? l)
   simp only at c0 c1 c2 a0 a1 hk hp L M
   have Q:=Za (fun W (hb:Below wr.heap.size wr W)=>Zy6 xl B la lc W (by have:=hb.size;omega) (HE.out.below (Zm E.out hb) HE.out.room) (hk.below (hb.mono (by omega))) a0 a1 L)
   obtain ⟨pa,pc,rfl,_,_,_⟩:=hp
   obtain ⟨bn,C⟩:∃ b,nrB ⟨#[]⟩ xl=b:=⟨_,rfl⟩
   rw [C] at Q
   have K:Hid (d=(bn&&Zbu (ns.drop (j+1)))):=by
    show _=_
    rw [<- G.out,Zvo HX.out]
    simp only
    rw [C]
   clear hc l C
   go_upto_region 4 with fail
   generalize p:World.alloc _ _=W2
   have f:=Zk wr #[.int .i64 xi,.slice la xl.length lc,.slice pa xp.length pc] 73
   rw [p] at f
   have H:Hid (Below wr.heap.size wr W2):=by rw [<- p];exact (Below.refl _ _).alloc (Nat.le_refl _) _
   have k0:=f.cell 1 rfl
   clear p f c0 c1 c2 hk L M a0 a1
   go_wp2_with fail
   refine (Q.out W2 H.out).mono ?_
   rintro e w3 ⟨rfl,s⟩
   have t:=Za (Zm u.out (Zm H.out s))
   clear s k0
   cases bn with
   | false =>
    have Y:Hid (d=false):=K.out
    go_wp2_with fail
    go_ret
    exact ⟨by rw [Y.out];rfl,Zm N.out t.out⟩
   | true =>
    have X:Hid (Zbu (ns.drop (j+1))=d):=K.out.symm
    go_wp2_with fail
    go_roundw
    case rel=>exact ⟨j+1,by omega,by go_num,t.out,X.out⟩
    case measure=>simp [intOf];omega
  ·have Y:Hid (d=true):=by
    show _=_
    rw [<- G.out,List.drop_of_length_le (by have:=HN.out;omega)];rfl
   have y:¬ (j:Int)<n:=by omega
   go_wp2_with fail
   go_ret
   exact ⟨by rw [Y.out];rfl,E.out⟩
set_option maxRecDepth 100000 in
set_option maxHeartbeats 4000000 in
theorem Zx3 (g:Zx) (B:Nat) (v:Value) (w:World) (hB:B<=w.heap.size) (hE:Env w) (hg:Zp B w v g) (hz:Jbj g):Calls Tryz.prog 104 #[v] w fun e w'=>e=.returned (.bool (Zft g.rels))/\Below w.heap.size w w':=by
 obtain ⟨na,nc,ra,rc,rfl,hn,hr⟩:=hg
 obtain ⟨R,P,F,D⟩:=hz
 have HE:=Za hE
 obtain ⟨d,c⟩:∃ r,Zft g.rels=r:=⟨_,rfl⟩
 have HR:=Za c
 rw [c]
 clear c hE
 obtain ⟨ns,rs,nn,nr⟩:=g
 simp only at hn hr R P F D HR |-
 obtain ⟨a',c',e1,h1,h2,z⟩:=hn
 obtain ⟨rfl,rfl⟩:na=a'/\nc=c':=by injection e1 with e1 _ e2;exact ⟨e1,e2⟩
 obtain ⟨a',c',e2,r1,r2,O⟩:=hr
 obtain ⟨rfl,rfl⟩:ra=a'/\rc=c':=by injection e2 with e1 _ e2;exact ⟨e1,e2⟩
 have HP:=Za z
 have HQ:=Za O
 have a3:=Za F
 have a2:=Za D
 obtain ⟨n,hn⟩:∃ n,ns.length=n:=⟨_,rfl⟩
 have HN:=Za hn
 obtain ⟨m,hm⟩:∃ m,rs.length=m:=⟨_,rfl⟩
 have HM:=Za hm
 rw [hn] at h1 R
 rw [hm] at r1 P
 rw [hn,hm]
 clear z O F D hn hm e1 e2
 have a9:n<=9223372036854775807:=by omega
 have b0:m<=9223372036854775807:=by omega
 go_enter Tryz.func104,Tryz.ntmps104
 go_upto_region 1 with fail
 generalize A:World.alloc _ _=W1
 have o:=Zk w #[.slice na n nc,.slice ra m rc,.int .i64 nn,.int .i64 nr] 25
 rw [A] at o
 have N:Hid (Below w.heap.size w W1):=by rw [<- A];exact (Below.refl _ _).alloc (Nat.le_refl _) _
 have V:=Za o
 have q1:=o.cell 1 rfl
 clear A o
 have S:=HR
 go_wp2_with fail
 clear q1
 go_loopw [8] (fun i wr=>∃ j:Nat,j<=m/\i=.int .i64 j/\Below W1.heap.size W1 wr/\Zft (rs.drop j)=d) (fun i _=>m - (intOf i).toNat)
 case atStart=>exact ⟨0,Nat.zero_le _,rfl,Below.refl _ _,S.out⟩
 case round =>
  obtain ⟨j,hj,rfl,k,I⟩:=hrel
  have u:=Za k
  have G:=Za I
  have a4:w.heap.size<wr.heap.size:=by
   have:=V.out.lt
   have:=k.size
   omega
  have E:=Za (Zm N.out k)
  clear k I
  by_cases hlt:j<m
  ·have y:(j:Int)<m:=by omega
   obtain ⟨⟨xi,fr,tt,ty,xp⟩,l⟩:∃ q,rs[j]?=some q:=⟨_,List.getElem?_eq_getElem (by have:=HM.out;omega)⟩
   have HX:=Za l
   obtain ⟨bl,off,rfl,U,hc⟩:=HQ.out.resolve_left (by intro e;rw [e] at l;simp at l)
   obtain ⟨pv,⟨c0,c1,c2,c3,c4⟩,_,hp⟩:=(hc j _ l).below (E.out.mono hB) U
   obtain ⟨L,M⟩:=a2.out _ (List.mem_of_getElem? l)
   simp only at c0 c1 c2 c3 c4 hp L M
   have Q:=Za (fun W (hb:Below wr.heap.size wr W)=>Znm ty L W (HE.out.below (Zm E.out hb) HE.out.room))
   obtain ⟨pa,pc,rfl,_,_,_⟩:=hp
   obtain ⟨bn,C⟩:∃ b,Zfs ty.data.toList=b:=⟨_,rfl⟩
   rw [C] at Q
   have K:Hid (d=(bn&&Zft (rs.drop (j+1)))):=by
    show _=_
    rw [<- G.out,Zx2 HX.out]
    simp only
    rw [C]
   clear hc l C
   go_upto_region 4 with fail
   generalize p:World.alloc _ _=W2
   have f:=Zk wr #[.int .i64 xi,.int .i64 fr,.int .i64 tt,.string ty,.slice pa xp.length pc] 71
   rw [p] at f
   have H:Hid (Below wr.heap.size wr W2):=by rw [<- p];exact (Below.refl _ _).alloc (Nat.le_refl _) _
   have k0:=f.cell 3 rfl
   clear p f c0 c1 c2 c3 c4 L M
   go_wp2_with fail
   refine (Q.out W2 H.out).mono ?_
   rintro e w3 ⟨rfl,s⟩
   have t:=Za (Zm u.out (Zm H.out s))
   clear s k0
   cases bn with
   | false =>
    have Y:Hid (d=false):=K.out
    go_wp2_with fail
    go_ret
    exact ⟨by rw [Y.out];rfl,Zm N.out t.out⟩
   | true =>
    have X:Hid (Zft (rs.drop (j+1))=d):=K.out.symm
    go_wp2_with fail
    go_roundw
    case rel=>exact ⟨j+1,by omega,by go_num,t.out,X.out⟩
    case measure=>simp [intOf];omega
  ·have Y:Hid (d=true):=by
    show _=_
    rw [<- G.out,List.drop_of_length_le (by have:=HM.out;omega)];rfl
   have y:¬ (j:Int)<m:=by omega
   go_wp2_with fail
   go_ret
   exact ⟨by rw [Y.out];rfl,E.out⟩
set_option maxRecDepth 100000 in
set_option maxHeartbeats 4000000 in
theorem Zx4 (g:Zx) (B:Nat) (v:Value) (w:World) (hB:B<=w.heap.size) (hE:Env w) (hg:Zp B w v g) (hz:Jbj g):Calls Tryz.prog 103 #[v] w fun e w'=>e=.returned (.bool ((Jv g.nodes&&Zag g.rels)))/\Below w.heap.size w w':=by
 obtain ⟨na,nc,ra,rc,rfl,hn,hr⟩:=hg
 obtain ⟨R,P,F,D⟩:=hz
 have HE:=Za hE
 obtain ⟨d,c⟩:∃ r,(Jv g.nodes&&Zag g.rels)=r:=⟨_,rfl⟩
 have HR:=Za c
 rw [c]
 clear c hE
 obtain ⟨ns,rs,nn,nr⟩:=g
 simp only at hn hr R P F D HR |-
 obtain ⟨a',c',e1,h1,h2,z⟩:=hn
 obtain ⟨rfl,rfl⟩:na=a'/\nc=c':=by injection e1 with e1 _ e2;exact ⟨e1,e2⟩
 obtain ⟨a',c',e2,r1,r2,O⟩:=hr
 obtain ⟨rfl,rfl⟩:ra=a'/\rc=c':=by injection e2 with e1 _ e2;exact ⟨e1,e2⟩
 have HP:=Za z
 have HQ:=Za O
 have a3:=Za F
 have a2:=Za D
 obtain ⟨n,hn⟩:∃ n,ns.length=n:=⟨_,rfl⟩
 have HN:=Za hn
 obtain ⟨m,hm⟩:∃ m,rs.length=m:=⟨_,rfl⟩
 have HM:=Za hm
 rw [hn] at h1 R
 rw [hm] at r1 P
 rw [hn,hm]
 clear z O F D hn hm e1 e2
 have a9:n<=9223372036854775807:=by omega
 have b0:m<=9223372036854775807:=by omega
 go_enter Tryz.func103,Tryz.ntmps103
 go_upto_region 1 with fail
 generalize A:World.alloc _ _=W1
 have o:=Zk w #[.slice na n nc,.slice ra m rc,.int .i64 nn,.int .i64 nr] 25
 rw [A] at o
 have N:Hid (Below w.heap.size w W1):=by rw [<- A];exact (Below.refl _ _).alloc (Nat.le_refl _) _
 have V:=Za o
 have q0:=o.cell 0 rfl
 clear A o
 have S:=HR
 go_wp2_with fail
 clear q0
 go_loopw [10] (fun i wr=>∃ j:Nat,j<=n/\i=.int .i64 j/\Below W1.heap.size W1 wr/\(Jv (ns.drop j)&&Zag rs)=d) (fun i _=>n - (intOf i).toNat)
 case atStart=>exact ⟨0,Nat.zero_le _,rfl,Below.refl _ _,S.out⟩
 case round =>
  obtain ⟨j,hj,rfl,k,I⟩:=hrel
  have u:=Za k
  have G:=Za I
  have a4:w.heap.size<wr.heap.size:=by
   have:=V.out.lt
   have:=k.size
   omega
  have E:=Za (Zm N.out k)
  clear k I
  by_cases hlt:j<n
  ·have y:(j:Int)<n:=by omega
   obtain ⟨⟨xi,xl,xp⟩,l⟩:∃ q,ns[j]?=some q:=⟨_,List.getElem?_eq_getElem (by have:=HN.out;omega)⟩
   have HX:=Za l
   obtain ⟨bl,off,rfl,U,hc⟩:=HP.out.resolve_left (by intro e;rw [e] at l;simp at l)
   obtain ⟨la,lc,pv,⟨c0,c1,c2⟩,⟨a0,a1⟩,hk,hp⟩:=(hc j _ l).below (E.out.mono hB) U
   obtain ⟨L,M⟩:=a3.out _ (List.mem_of_getElem? l)
   simp only at c0 c1 c2 a0 a1 hk hp L M
   have Q:=Za (fun W (hb:Below wr.heap.size wr W)=>Zty pv xp B W (by have:=hb.size;omega) (HE.out.below (Zm E.out hb) HE.out.room) (hp.below (hb.mono (by omega))) M)
   obtain ⟨pa,pc,rfl,_,_,_⟩:=hp
   obtain ⟨bn,C⟩:∃ b,Zlg xp=b:=⟨_,rfl⟩
   rw [C] at Q
   have K:Hid (d=((bn&&Jv (ns.drop (j+1)))&&Zag rs)):=by
    show _=_
    rw [<- G.out,Zog HX.out]
    simp only
    rw [C]
   clear hc l C
   go_upto_region 4 with fail
   generalize p:World.alloc _ _=W2
   have f:=Zk wr #[.int .i64 xi,.slice la xl.length lc,.slice pa xp.length pc] 73
   rw [p] at f
   have H:Hid (Below wr.heap.size wr W2):=by rw [<- p];exact (Below.refl _ _).alloc (Nat.le_refl _) _
   have k0:=f.cell 2 rfl
   clear p f c0 c1 c2 hk L M a0 a1
   go_wp2_with fail
   refine (Q.out W2 H.out).mono ?_
   rintro e w3 ⟨rfl,s⟩
   have t:=Za (Zm u.out (Zm H.out s))
   clear s k0
   cases bn with
   | false =>
    have Y:Hid (d=false):=K.out
    go_wp2_with fail
    go_ret
    exact ⟨by rw [Y.out];rfl,Zm N.out t.out⟩
   | true =>
    have X:Hid ((Jv (ns.drop (j+1))&&Zag rs)=d):=K.out.symm
    go_wp2_with fail
    go_roundw
    case rel=>exact ⟨j+1,by omega,by go_num,t.out,X.out⟩
    case measure=>simp [intOf];omega
  ·have b2:Hid (Zag rs=d):=by
    show _=_
    rw [<- G.out,List.drop_of_length_le (by have:=HN.out;omega)];rfl
   have y:¬ (j:Int)<n:=by omega
   have c7:=u
   have q1:=(V.out.below u.out V.out.lt).cell 1 rfl
   go_wp2_with fail
   clear hlt y G hj u a4 E q1 S
   have S:=b2
   clear b2
   go_loopw [22] (fun i wr=>∃ j:Nat,j<=m/\i=.int .i64 j/\Below W1.heap.size W1 wr/\Zag (rs.drop j)=d) (fun i _=>m - (intOf i).toNat)
   case atStart=>exact ⟨0,Nat.zero_le _,rfl,c7.out,S.out⟩
   case round =>
    obtain ⟨j,hj,rfl,k,I⟩:=hrel
    have u:=Za k
    have G:=Za I
    have a4:w.heap.size<wr.heap.size:=by
     have:=V.out.lt
     have:=k.size
     omega
    have E:=Za (Zm N.out k)
    clear k I
    by_cases hlt:j<m
    ·have y:(j:Int)<m:=by omega
     obtain ⟨⟨xi,fr,tt,ty,xp⟩,l⟩:∃ q,rs[j]?=some q:=⟨_,List.getElem?_eq_getElem (by have:=HM.out;omega)⟩
     have HX:=Za l
     obtain ⟨bl,off,rfl,U,hc⟩:=HQ.out.resolve_left (by intro e;rw [e] at l;simp at l)
     obtain ⟨pv,⟨c0,c1,c2,c3,c4⟩,_,hp⟩:=(hc j _ l).below (E.out.mono hB) U
     obtain ⟨L,M⟩:=a2.out _ (List.mem_of_getElem? l)
     simp only at c0 c1 c2 c3 c4 hp L M
     have Q:=Za (fun W (hb:Below wr.heap.size wr W)=>Zty pv xp B W (by have:=hb.size;omega) (HE.out.below (Zm E.out hb) HE.out.room) (hp.below (hb.mono (by omega))) M)
     obtain ⟨pa,pc,rfl,_,_,_⟩:=hp
     obtain ⟨bn,C⟩:∃ b,Zlg xp=b:=⟨_,rfl⟩
     rw [C] at Q
     have K:Hid (d=(bn&&Zag (rs.drop (j+1)))):=by
      show _=_
      rw [<- G.out,Zqf HX.out]
      simp only
      rw [C]
     clear hc l C
     go_upto_region 10 with fail
     generalize p:World.alloc _ _=W2
     have f:=Zk wr #[.int .i64 xi,.int .i64 fr,.int .i64 tt,.string ty,.slice pa xp.length pc] 71
     rw [p] at f
     have H:Hid (Below wr.heap.size wr W2):=by rw [<- p];exact (Below.refl _ _).alloc (Nat.le_refl _) _
     have k0:=f.cell 4 rfl
     clear p f c0 c1 c2 c3 c4 L M
     go_wp2_with fail
     refine (Q.out W2 H.out).mono ?_
     rintro e w3 ⟨rfl,s⟩
     have t:=Za (Zm u.out (Zm H.out s))
     clear s k0
     cases bn with
     | false =>
      have Y:Hid (d=false):=K.out
      go_wp2_with fail
      go_ret
      exact ⟨by rw [Y.out];rfl,Zm N.out t.out⟩
     | true =>
      have X:Hid (Zag (rs.drop (j+1))=d):=K.out.symm
      go_wp2_with fail
      go_roundw
      case rel=>exact ⟨j+1,by omega,by go_num,t.out,X.out⟩
      case measure=>simp [intOf];omega
    ·have Y:Hid (d=true):=by
      show _=_
      rw [<- G.out,List.drop_of_length_le (by have:=HM.out;omega)];rfl
     have y:¬ (j:Int)<m:=by omega
     go_wp2_with fail
     go_ret
     exact ⟨by rw [Y.out];rfl,E.out⟩
end Go.Proofs.YthfilnflgahcjaaGreatDoor

namespace Go.Proofs.YthfilnflgahcjaaGreatDoor
open Go.RowKit Go.Shelf Go.Maps
set_option linter.all false
attribute [local go_sem] Oper.semAt_some
theorem Jgn:Tryz.prog.underlying 139=some (.map 62 2):=by kernel_rfl
theorem Jgo:Tryz.prog.underlying 134=some (.map 42 2):=by kernel_rfl
def Zaf (ts:List ByteArray):List ((ByteArray × Int) × Int):=ts.foldl (fun cs t=>Zcn (t,0) 1 cs) []
theorem Znh (ts:List ByteArray) (t:ByteArray):Zaf (ts++[t])=Zcn (t,0) 1 (Zaf ts):=by simp [Zaf]
theorem Zcx (ts:List ByteArray):((Zaf ts).map Prod.fst).Nodup:=by
 unfold Zaf
 suffices h:∀ (ts:List ByteArray) (cs:List ((ByteArray × Int) × Int)),(cs.map Prod.fst).Nodup->((ts.foldl (fun cs t=>Zcn (t,0) 1 cs) cs).map Prod.fst).Nodup from h ts [] List.nodup_nil
 intro ts
 induction ts with
 | nil=>intro cs h;exact h
 | cons t r ih=>intro cs h;exact ih _ (Zgv _ _ _ h)
theorem Zfm (ts:List ByteArray) (x:ByteArray × Int):0<=Zn x (Zaf ts)/\Zn x (Zaf ts)<=ts.length:=by
 unfold Zaf
 suffices h:∀ (ts:List ByteArray) (cs:List ((ByteArray × Int) × Int)) (n:Nat),(0<=Zn x cs/\Zn x cs<=n)->0<=Zn x (ts.foldl (fun cs t=>Zcn (t,0) 1 cs) cs)/\Zn x (ts.foldl (fun cs t=>Zcn (t,0) 1 cs) cs)<=(n+ts.length:Nat) by
  have:=h ts [] 0 (by simp [Zn])
  simpa using this
 intro ts
 induction ts with
 | nil=>intro cs n h;simpa using h
 | cons t r ih =>
  intro cs n h
  have:=ih (Zcn (t,0) 1 cs) (n+1) (by rw [Zgw];split<;>omega)
  simp only [List.foldl_cons,List.length_cons] at *
  omega
theorem Ziv (ts:List ByteArray):(Zaf ts).length<=ts.length:=by
 unfold Zaf
 suffices h:∀ (ts:List ByteArray) (cs:List ((ByteArray × Int) × Int)),(ts.foldl (fun cs t=>Zcn (t,0) 1 cs) cs).length<=cs.length+ts.length by
  have:=h ts []
  simpa using this
 intro ts
 induction ts with
 | nil=>intro cs;simp
 | cons t r ih =>
  intro cs
  have h1:=ih (Zcn (t,0) 1 cs)
  have h2:(Zcn (t,0) 1 cs).length<=cs.length+1:=by
   clear h1 ih
   induction cs with
   | nil=>simp [Zcn]
   | cons p q ih=>rw [Zcn];split<;>simp<;>omega
  simp only [List.foldl_cons,List.length_cons] at *
  omega
set_option maxRecDepth 100000 in
set_option maxHeartbeats 8000000 in
theorem Zza {le:ByteArray × Int->ByteArray × Int->Prop} {most:Nat} (y:Zro le most) (z:most<=900000) (g:Zx) (v:Value) (B:Nat) (w:World) (hB:B<=w.heap.size) (h:Zp B w v g) (hl:g.rels.length<=100000) (hm:(Zaf (g.rels.map fun r=>r.type)).length<=most) :
  Calls Tryz.prog 44 #[v] w fun e w'=>∃ v L,e=.returned v/\L.Perm ((Zaf (g.rels.map fun r=>r.type)).map (fun p:(ByteArray × Int) × Int=>(p.1.1,p.2)))/\L.Pairwise le/\Jb 62 2 Za0 w.heap.size w' v L/\Below w.heap.size w w':=by
 obtain ⟨na,nc,ra,rc,rfl,hn,hr⟩:=h
 obtain ⟨a3,a4,e0,r1,r2,r3⟩:=hr
 obtain ⟨rfl,rfl⟩:ra=a3/\rc=a4:=by injection e0 with a b c;exact ⟨a,c⟩
 have Y:=Za r3
 have a0:=Za hm
 obtain ⟨m,C⟩:∃ m,g.rels.length=m:=⟨_,rfl⟩
 have HM:=Za C
 rw [C] at r1 hl |-
 generalize g.nodes.length=l1 at *
 generalize g.nn=nn at *
 generalize g.nr=nr at *
 clear e0 r3 hn hm C
 have a6:∀ W:World,(Instr.makeMap 139 none).run Tryz.prog W=.ok (.map (some W.heap.size)) (W.alloc (.map #[] 0)):=fun W=>rfl
 go_enter Tryz.func44,Tryz.ntmps44
 go_upto_region 2 with fail
 have u:Hid (MC Zhy okL ((w.alloc (.cells #[.slice na l1 nc,.slice ra m rc,.int .i64 nn,.int .i64 nr] 25)).alloc (.map #[] 0)) (w.alloc (.cells #[.slice na l1 nc,.slice ra m rc,.int .i64 nn,.int .i64 nr] 25)).heap.size []):=Zc9 _
 have K:Hid (Below w.heap.size w ((w.alloc (.cells #[.slice na l1 nc,.slice ra m rc,.int .i64 nn,.int .i64 nr] 25)).alloc (.map #[] 0))):=((Below.refl _ _).alloc (Nat.le_refl _) _).alloc (by simp) _
 have c1:((w.alloc (.cells #[.slice na l1 nc,.slice ra m rc,.int .i64 nn,.int .i64 nr] 25)).alloc (.map #[] 0)).cell? ⟨w.heap.size,1,none⟩=some (.slice ra m rc):=((Below.refl _ _).alloc (Nat.le_refl _) _:Below _ _ (World.alloc _ _)).cell (p:=⟨w.heap.size,1,none⟩) (show w.heap.size<(w.alloc _).heap.size by simp) |>.trans (Zh _ _ _ _ _ rfl)
 have I:(w.alloc (.cells #[.slice na l1 nc,.slice ra m rc,.int .i64 nn,.int .i64 nr] 25)).heap.size=w.heap.size+1:=by simp
 rw [I] at u
 obtain ⟨W1,H⟩:∃ W,(w.alloc (.cells #[.slice na l1 nc,.slice ra m rc,.int .i64 nn,.int .i64 nr] 25)).alloc (.map #[] 0)=W:=⟨_,rfl⟩
 rw [H] at u K c1 |-
 clear H I
 go_wp2_with fail
 go_loopw [11] (fun i wr=>∃ j:Nat,j<=m/\i=.int .i64 j/\Below w.heap.size w wr/\MC Zhy okL wr (w.heap.size+1) (Zaf ((g.rels.take j).map fun r=>r.type))) (fun i _=>m - (intOf i).toNat)
 case atStart=>exact ⟨0,Nat.zero_le _,rfl,K.out,u.out⟩
 case round =>
  obtain ⟨j,hj,rfl,O,F⟩:=hrel
  have f:=Za O
  have D:=Za F
  clear O F
  by_cases hlt:j<m
  ·have M:(j:Int)<m:=by omega
   obtain ⟨x,N⟩:∃ q,g.rels[j]?=some q:=⟨_,List.getElem?_eq_getElem (by have:=HM.out;omega)⟩
   obtain ⟨bl,off,rfl,a2,hc⟩:=Y.out.resolve_left (by intro e;rw [e] at N;simp at N)
   obtain ⟨pv,⟨d0,d1,d2,d3,d4⟩,G,Q⟩:=(hc j x N).below (f.out.mono hB) a2
   have HX:=Za N
   obtain ⟨pa,pc,a1⟩:∃ pa pc,pv=.slice pa x.props.length pc:=by obtain ⟨pa,pc,e,_⟩:=Q;exact ⟨pa,pc,e⟩
   subst a1
   generalize x.props.length=l3 at *
   obtain ⟨s,hs⟩:∃ s,x.type=s:=⟨_,rfl⟩
   have HS:=Za hs
   rw [hs] at d3 G
   generalize x.id=xi at *
   generalize x.fr=xf at *
   generalize x.tt=xt at *
   clear N hc Q hs
   go_upto_region 5 with fail
   have k3:(wr.alloc (.cells #[.int .i64 xi,.int .i64 xf,.int .i64 xt,.string s,.slice pa l3 pc] 71)).cell? ⟨wr.heap.size,3,none⟩=some (.string s):=Zh _ _ _ _ _ rfl
   have d:Below wr.heap.size wr (wr.alloc (.cells #[.int .i64 xi,.int .i64 xf,.int .i64 xt,.string s,.slice pa l3 pc] 71)):=(Below.refl _ _).alloc (Nat.le_refl _) _
   obtain ⟨W2,P⟩:∃ W,wr.alloc (.cells #[.int .i64 xi,.int .i64 xf,.int .i64 xt,.string s,.slice pa l3 pc] 71)=W:=⟨_,rfl⟩
   rw [P] at k3 d |-
   have l:MC Zhy okL W2.drew (w.heap.size+1) (Zaf ((g.rels.take j).map fun r=>r.type)):=MG.block D.out (d.block _ (MG.lt D.out))
   obtain ⟨st,w1,w2,q1,q2,q3,q4,X,q6,q7,R⟩:=Zhn Ji4 Jgn l (Zcx _) (s,0) ⟨G,Zcg⟩ 1
   obtain ⟨cn,E⟩:∃ c,Zn ((s,0):ByteArray × Int) (Zaf ((g.rels.take j).map fun r=>r.type))=c:=⟨_,rfl⟩
   have k:=Zfm ((g.rels.take j).map fun r=>r.type) (s,0)
   rw [E] at q1 q2 q3 q4 k
   have a9:cn<=100000:=by have h1:=k.2;simp only [List.length_map,List.length_take] at h1;omega
   have a7:=k.1
   simp only [Zhy] at q1 q2 q3 q4
   have HQ:=Za (And.intro X (And.intro q6 (And.intro q7 R)))
   have HA:=Za d
   clear P d l X q6 q7 R E k d0 d1 d2 d3 d4
   have a8:IntKind.i64.wrap (cn+1)=cn+1:=by rw [IntKind.wrap_i64];omega
   have o:Hid (Below w.heap.size w w2/\MC Zhy okL w2 (w.heap.size+1) (Zaf ((g.rels.take (j+1)).map fun r=>r.type))):=by
    obtain ⟨X,q6,q7,R⟩:=HQ.out
    refine ⟨((Below.on f.out HA.out).drew).trans (R.mono (Nat.le_succ w.heap.size)),?_⟩
    rw [List.take_add_one,HX.out,List.map_append]
    show MC Zhy okL w2 (w.heap.size+1) (Zaf (_++[x.type]))
    rw [Znh,HS.out]
    exact X
   go_region_with fail
   all_goals
    go_wp2_with fail
    go_roundw
    case rel=>exact ⟨j+1,by omega,by go_num,o.out.1,o.out.2⟩
    case measure=>simp [intOf];omega
  ·have M:¬ (j:Int)<m:=by omega
   have HL:=D.out
   rw [List.take_of_length_le (by have:=HM.out;omega)] at HL
   have a5:=Za (Zu9 y z HL a0.out)
   clear HL
   go_wp2_with (go_at_call 88;refine a5.out.mono ?_;rintro e W3 ⟨v3,L,rfl,V,T,U,S⟩;have HY:=Za (And.intro V (And.intro T (And.intro U S)));clear V T U S)
   go_ret
   obtain ⟨V,T,U,S⟩:=HY.out
   exact ⟨_,L,rfl,V,T,U.base f.out.size,Below.on f.out S⟩
end Go.Proofs.YthfilnflgahcjaaGreatDoor

namespace Go.Proofs.YthfilnflgahcjaaGreatDoor
open Go.RowKit Go.Shelf Go.Maps
set_option linter.all false
attribute [local go_sem] Oper.semAt_some
def Zi (ns:List Zj):List ByteArray:=ns.flatMap fun n=>n.labels
theorem Zht {ns:List Zj} {j:Nat} {x:Zj} (h:ns[j]?=some x):Zi (ns.take (j+1))=Zi (ns.take j)++x.labels:=by
 unfold Zi
 rw [List.take_add_one,h,List.flatMap_append]
 simp
theorem Zss {ns:List Zj} {j:Nat} {x:Zj} (h:ns[j]?=some x):(Zi (ns.take j)).length+x.labels.length<=(Zi ns).length:=by
 have h1:Zi ns=Zi (ns.take (j+1))++Zi (ns.drop (j+1)):=by
  unfold Zi
  rw [<- List.flatMap_append,List.take_append_drop]
 rw [h1,Zht h]
 simp only [List.length_append];omega
set_option maxRecDepth 100000 in
set_option maxHeartbeats 8000000 in
theorem Zv0 {le:ByteArray × Int->ByteArray × Int->Prop} {most:Nat} (I:Zse le most) (N:most<=900000) (g:Zx) (v:Value) (B:Nat) (w:World) (hB:B<=w.heap.size) (h:Zp B w v g) (hl:g.nodes.length<=100000) (a1:(Zi g.nodes).length<=1000000) (hm:(Zaf (Zi g.nodes)).length<=most) :
  Calls Tryz.prog 43 #[v] w fun e w'=>∃ v L,e=.returned v/\L.Perm ((Zaf (Zi g.nodes)).map (fun p:(ByteArray × Int) × Int=>(p.1.1,p.2)))/\L.Pairwise le/\Jb 42 2 Za0 w.heap.size w' v L/\Below w.heap.size w w':=by
 obtain ⟨na,nc,ra,rc,rfl,hr,hn⟩:=h
 obtain ⟨b8,b5,e0,r1,r2,r3⟩:=hr
 obtain ⟨rfl,rfl⟩:na=b8/\nc=b5:=by injection e0 with a b c;exact ⟨a,c⟩
 have b0:=Za r3
 have b1:=Za hm
 have b6:=Za a1
 obtain ⟨m,Q⟩:∃ m,g.nodes.length=m:=⟨_,rfl⟩
 have HM:=Za Q
 rw [Q] at r1 hl |-
 generalize g.rels.length=l1 at *
 generalize g.nn=nn at *
 generalize g.nr=nr at *
 clear e0 r3 hn hm Q a1
 have b9:∀ W:World,(Instr.makeMap 134 none).run Tryz.prog W=.ok (.map (some W.heap.size)) (W.alloc (.map #[] 0)):=fun W=>rfl
 go_enter Tryz.func43,Tryz.ntmps43
 go_upto_region 2 with fail
 have H:Hid (MC Zhy okL ((w.alloc (.cells #[.slice na m nc,.slice ra l1 rc,.int .i64 nn,.int .i64 nr] 25)).alloc (.map #[] 0)) (w.alloc (.cells #[.slice na m nc,.slice ra l1 rc,.int .i64 nn,.int .i64 nr] 25)).heap.size []):=Zc9 _
 have a4:Hid (Below w.heap.size w ((w.alloc (.cells #[.slice na m nc,.slice ra l1 rc,.int .i64 nn,.int .i64 nr] 25)).alloc (.map #[] 0))):=((Below.refl _ _).alloc (Nat.le_refl _) _).alloc (by simp) _
 have c1:((w.alloc (.cells #[.slice na m nc,.slice ra l1 rc,.int .i64 nn,.int .i64 nr] 25)).alloc (.map #[] 0)).cell? ⟨w.heap.size,0,none⟩=some (.slice na m nc):=((Below.refl _ _).alloc (Nat.le_refl _) _:Below _ _ (World.alloc _ _)).cell (p:=⟨w.heap.size,0,none⟩) (show w.heap.size<(w.alloc _).heap.size by simp) |>.trans (Zh _ _ _ _ _ rfl)
 have a3:(w.alloc (.cells #[.slice na m nc,.slice ra l1 rc,.int .i64 nn,.int .i64 nr] 25)).heap.size=w.heap.size+1:=by simp
 rw [a3] at H
 obtain ⟨W1,a2⟩:∃ W,(w.alloc (.cells #[.slice na m nc,.slice ra l1 rc,.int .i64 nn,.int .i64 nr] 25)).alloc (.map #[] 0)=W:=⟨_,rfl⟩
 rw [a2] at H a4 c1 |-
 clear a2 a3
 go_wp2_with fail
 go_loopw [13] (fun i wr=>∃ j:Nat,j<=m/\i=.int .i64 j/\Below w.heap.size w wr/\MC Zhy okL wr (w.heap.size+1) (Zaf (Zi (g.nodes.take j)))) (fun i _=>m - (intOf i).toNat)
 case atStart=>exact ⟨0,Nat.zero_le _,rfl,a4.out,H.out⟩
 case round =>
  obtain ⟨j,hj,rfl,o,f⟩:=hrel
  have d:=Za o
  have y:=Za f
  clear o f
  by_cases hlt:j<m
  ·have a5:(j:Int)<m:=by omega
   obtain ⟨x,P⟩:∃ q,g.nodes[j]?=some q:=⟨_,List.getElem?_eq_getElem (by have:=HM.out;omega)⟩
   obtain ⟨bl,off,rfl,M,hc⟩:=b0.out.resolve_left (by intro e;rw [e] at P;simp at P)
   obtain ⟨la,lc,pv,⟨d0,d1,d2⟩,⟨s1,s2⟩,a0,a7⟩:=hc j x P
   replace d0:=((d.out.mono hB).cell (p:=⟨bl,off+j*3,none⟩) M).trans d0
   replace d1:=((d.out.mono hB).cell (p:=⟨bl,off+j*3+1,none⟩) M).trans d1
   replace d2:=((d.out.mono hB).cell (p:=⟨bl,off+j*3+2,none⟩) M).trans d2
   have HX:=Za P
   have t:=Za (Zss P)
   have K:=Za (Zht P)
   obtain ⟨pa,pc,b3⟩:∃ pa pc,pv=.slice pa x.props.length pc:=by obtain ⟨pa,pc,e,_⟩:=a7;exact ⟨pa,pc,e⟩
   subst b3
   have D:Hid (∀ W,Below w.heap.size w W->Zbh B W la x.labels):=fun W hb=>a0.below (hb.mono hB)
   generalize x.props.length=l3 at *
   obtain ⟨C,Y⟩:∃ l,x.labels=l:=⟨_,rfl⟩
   rw [Y] at d1 s1 D t K
   obtain ⟨n,hn⟩:∃ n,C.length=n:=⟨_,rfl⟩
   have HN:=Za hn
   rw [hn] at d1 s1 t
   generalize x.id=xi at *
   clear P hc a7 Y a0 hn
   go_upto_region 5 with fail
   have k1:(wr.alloc (.cells #[.int .i64 xi,.slice la n lc,.slice pa l3 pc] 73)).cell? ⟨wr.heap.size,1,none⟩=some (.slice la n lc):=Zh _ _ _ _ _ rfl
   have r:Below wr.heap.size wr (wr.alloc (.cells #[.int .i64 xi,.slice la n lc,.slice pa l3 pc] 73)):=(Below.refl _ _).alloc (Nat.le_refl _) _
   obtain ⟨W2,a6⟩:∃ W,wr.alloc (.cells #[.int .i64 xi,.slice la n lc,.slice pa l3 pc] 73)=W:=⟨_,rfl⟩
   rw [a6] at k1 r |-
   have U:Hid (MC Zhy okL W2 (w.heap.size+1) (Zaf (Zi (g.nodes.take j)))):=MG.block y.out (r.block _ (MG.lt y.out))
   have b4:Hid (Below w.heap.size w W2):=Below.on d.out r
   obtain ⟨A,hA⟩:∃ A,Zi (g.nodes.take j)=A:=⟨_,rfl⟩
   rw [hA] at U t K
   obtain ⟨X,hX⟩:∃ X,wr.heap.size=X:=⟨_,rfl⟩
   rw [hX] at k1 |-
   clear a6 r hA hX y
   go_wp2_with fail
   go_loopw [20] (fun i wr=>∃ k:Nat,k<=n/\i=.int .i64 k/\Below w.heap.size w wr/\MC Zhy okL wr (w.heap.size+1) (Zaf (A++C.take k))) (fun i _=>n - (intOf i).toNat)
   case atStart=>exact ⟨0,Nat.zero_le _,rfl,b4.out,by simpa using U.out⟩
   case round =>
    obtain ⟨k,hk,rfl,o,f⟩:=hrel
    have G:=Za o
    have V:=Za f
    clear o f
    by_cases hlt2:k<n
    ·have O:(k:Int)<n:=by omega
     obtain ⟨s,R⟩:∃ q,C[k]?=some q:=⟨_,List.getElem?_eq_getElem (by have:=HN.out;omega)⟩
     obtain ⟨b2,o2,rfl,c5,a8⟩:=(D.out _ G.out).resolve_left (by intro e;rw [e] at R;simp at R)
     obtain ⟨cx,a9⟩:=a8 k (by have:=HN.out;omega)
     have S:C.getD k ⟨#[]⟩=s:=by rw [List.getD_eq_getElem?_getD,R];rfl
     rw [S] at cx a9
     have c0:=Za R
     have z:MC Zhy okL wr.drew (w.heap.size+1) (Zaf (A++C.take k)):=V.out
     obtain ⟨st,w1,w2,q1,q2,q3,q4,q5,q6,q7,q8⟩:=Zhn Jhq Jgo z (Zcx _) (s,0) ⟨a9,Zcg⟩ 1
     obtain ⟨cn,T⟩:∃ c,Zn ((s,0):ByteArray × Int) (Zaf (A++C.take k))=c:=⟨_,rfl⟩
     have u:=Zfm (A++C.take k) (s,0)
     rw [T] at q1 q2 q3 q4 u
     have c3:cn<=1000000:=by
      have h1:=u.2
      have h2:=t.out
      have h3:=b6.out
      have h4:=HN.out
      simp only [List.length_append,List.length_take] at h1;omega
     have c2:=u.1
     simp only [Zhy] at q1 q2 q3 q4
     have E:Hid (Below w.heap.size w w2/\MC Zhy okL w2 (w.heap.size+1) (Zaf (A++C.take (k+1)))):=by
      refine ⟨(G.out.drew).trans (q8.mono (Nat.le_succ w.heap.size)),?_⟩
      rw [List.take_add_one,R,<- List.append_assoc]
      show MC Zhy okL w2 (w.heap.size+1) (Zaf (_++[s]))
      rw [Znh]
      exact q5
     have c4:IntKind.i64.wrap (cn+1)=cn+1:=by rw [IntKind.wrap_i64];omega
     clear z q5 q6 q7 q8 T u S a8 R
     go_upto_region 8 with fail
     go_region_with fail
     all_goals
      go_wp2_with fail
      go_roundw
      case rel=>exact ⟨k+1,by omega,by go_num,E.out.1,E.out.2⟩
      case measure=>simp [intOf];omega
    ·have O:¬ (k:Int)<n:=by omega
     have F:=V.out
     rw [List.take_of_length_le (by have:=HN.out;omega),<- K.out] at F
     have F:=Za F
     go_wp2_with fail
     go_roundw
     case rel=>exact ⟨j+1,by omega,by go_num,G.out,F.out⟩
     case measure=>simp [intOf];omega
  ·have a5:¬ (j:Int)<m:=by omega
   have F:=y.out
   rw [List.take_of_length_le (by have:=HM.out;omega)] at F
   have b7:=Za (Zvt I N F b1.out)
   clear F
   go_wp2_with (go_at_call 84;refine b7.out.mono ?_;rintro e W3 ⟨v3,L,rfl,y1,y2,y3,y4⟩;have HY:=Za (And.intro y1 (And.intro y2 (And.intro y3 y4)));clear y1 y2 y3 y4)
   go_ret
   obtain ⟨y1,y2,y3,y4⟩:=HY.out
   exact ⟨_,L,rfl,y1,y2,y3.base d.out.size,Below.on d.out y4⟩
end Go.Proofs.YthfilnflgahcjaaGreatDoor

