/- labels: how many a node has. node: the node of a number, in the document's words. ended: how many of a type begin or end at nodes with a label, in the document's words. Counts that are written row by row: the rows are apart, for they are of other kinds. The document's Count: what it gathers, pure; what its walk stands on. Count's first loop: the labels and the keys. -/
import Derived.Test.YthfilnflgahcjaaGreatDoorJoin36
import Derived.Test.YthfilnflgahcjaaGreatDoorJoin21
import Derived.Test.YthfilnflgahcjaaGreatDoorJoin34
import Derived.Test.YthfilnflgahcjaaGreatDoorJoin11
import Derived.Test.YthfilnflgahcjaaGreatDoorJoin35
import Derived.Test.YthfilnflgahcjaaGreatDoorJoin25
namespace Go.Proofs.YthfilnflgahcjaaGreatDoor
open Go.RowKit Go.Shelf Go.Maps
set_option linter.all false
attribute [local go_sem] Oper.semAt_some
theorem Zlr {ns:List Zj} {j:Nat} {n:Zj} (h:ns[j]?=some n) (i:Int):Zt (ns.drop j) i=if n.id=i then n.labels else Zt (ns.drop (j+1)) i:=by
 obtain ⟨X,o⟩:=List.getElem?_eq_some_iff.1 h
 rw [List.drop_eq_getElem_cons X,o];rfl
set_option maxRecDepth 100000 in
set_option maxHeartbeats 4000000 in
theorem Zqs (g:Zx) (id:Int) (v:Value) (B:Nat) (w:World) (hB:B<=w.heap.size) (h:Zp B w v g) (T:g.nodes.length<=100) :
  Calls Tryz.prog 39 #[v,.int .i64 id] w fun e w'=>e=.returned (.int .i64 ((Zt g.nodes id).length:Int))/\Below w.heap.size w w':=by
 obtain ⟨na,nc,ra,rc,rfl,hn,hr⟩:=h
 obtain ⟨xs,A,E,R⟩:=Zk6 hn
 obtain ⟨xa,xc,s,U,a0,y⟩:=R
 have L:=Za y
 have u:=Za (And.intro A E)
 obtain ⟨nn,k⟩:∃ n,g.nn=n:=⟨_,rfl⟩
 obtain ⟨nr,f⟩:∃ n,g.nr=n:=⟨_,rfl⟩
 obtain ⟨m2,hm2⟩:∃ n,g.rels.length=n:=⟨_,rfl⟩
 obtain ⟨m,hm⟩:∃ n,g.nodes.length=n:=⟨_,rfl⟩
 have HM:=Za hm
 rw [k,f,hm2,hm]
 rw [hm] at T s
 obtain ⟨rfl,e2,rfl⟩:na=xa/\m=xs.length/\nc=xc:=by injection s with a b c;exact ⟨a,b,c⟩
 have S:=Za e2
 rw [<- e2] at U
 clear hn hr A E y k f hm2 hm s e2
 obtain ⟨F,d⟩:∃ F,w.alloc (.cells #[.slice na m nc,.slice ra m2 rc,.int .i64 nn,.int .i64 nr] 25)=F:=⟨_,rfl⟩
 have r1:Rec F w.heap.size #[.slice na m nc,.slice ra m2 rc,.int .i64 nn,.int .i64 nr] 25:=by rw [<- d];exact Zk _ _ _
 have b1:Below w.heap.size w F:=by rw [<- d];exact (Below.refl _ _).alloc (Nat.le_refl _) _
 have N:=Za d
 have t:=Za b1
 clear d b1
 have c0:=r1.cell 0 rfl
 clear r1
 go_enter Tryz.func39,Tryz.ntmps39
 go_upto_region 1 with fail
 try rw [N.out]
 go_wp2_with fail
 go_loopw [5] (fun i wr=>∃ (j:Nat),j<=m/\i=.int .i64 j/\Zt g.nodes id=Zt (g.nodes.drop j) id/\wr=F) (fun i _=>m - (intOf i).toNat)
 case atStart=>exact ⟨0,Nat.zero_le _,rfl,rfl,rfl⟩
 case round =>
  obtain ⟨j,X,rfl,hl,rfl⟩:=hrel
  have W:=Za hl
  clear hl
  by_cases hlt:j<m
  ·have G:(j:Int)<m:=by omega
   have D:j<xs.length:=by have:=S.out;omega
   have I:j<g.nodes.length:=by have:=u.out.1;omega
   obtain ⟨n,hn⟩:∃ n,g.nodes[j]?=some n:=⟨_,List.getElem?_eq_getElem I⟩
   obtain ⟨⟨K,⟨la,ln,lc⟩,⟨pa,pn,pc⟩⟩,o⟩:∃ x,xs[j]?=some x:=⟨_,List.getElem?_eq_getElem D⟩
   have hid:=(u.out.2 j n _ hn o)
   have q:K=n.id:=hid.1
   have l:ln=n.labels.length:=hid.2.1
   have Y:=Za (Zlr hn id)
   obtain ⟨bl,off,rfl,C,O⟩:=L.out.resolve_left (by intro e;rw [e] at o;simp at o)
   have r:Below B w wr:=t.out.mono hB
   have d0:=(r.cell (p:=⟨bl,off+j*3+0,none⟩) C).trans (O j _ o 0 _ rfl)
   have d1:=(r.cell (p:=⟨bl,off+j*3+1,none⟩) C).trans (O j _ o 1 _ rfl)
   simp only [slV,Nat.add_zero] at d0 d1
   have H:=Za q
   have M:=Za l
   clear D I hn o hid q l O r
   by_cases hq:K=id
   ·have Q:(K==id)=true:=by simpa using hq
    have P:Hid (((Zt g.nodes id).length:Int)=ln):=by
     show _=_
     rw [W.out,Y.out,if_pos (by rw [<- H.out];exact hq),M.out]
    have HQ:=Za hq
    clear hq
    go_wp2_with fail
    go_ret
    exact ⟨congrArg (fun z:Int=>Ending.returned (Value.int .i64 z)) P.out.symm,t.out⟩
   ·have Q:(K==id)=false:=by simpa using hq
    have V:Hid (Zt g.nodes id=Zt (g.nodes.drop (j+1)) id):=by
     show _=_
     rw [W.out,Y.out,if_neg (by rw [<- H.out];exact hq)]
    clear hq
    go_wp2_with fail
    go_roundw
    case rel=>exact ⟨j+1,by omega,by go_num,V.out,by first | rfl | trivial⟩
    case measure=>simp [intOf];omega
  ·have G:¬ (j:Int)<m:=by omega
   have P:Hid (((Zt g.nodes id).length:Int)=0):=by
    show _=_
    rw [W.out,List.drop_eq_nil_of_le (by have:=HM.out;omega)];rfl
   go_wp2_with fail
   go_ret
   exact ⟨congrArg (fun z:Int=>Ending.returned (Value.int .i64 z)) P.out.symm,t.out⟩
end Go.Proofs.YthfilnflgahcjaaGreatDoor

namespace Go.Proofs.YthfilnflgahcjaaGreatDoor
open Go.RowKit Go.Shelf Go.Maps
set_option linter.all false
attribute [local go_sem] Oper.semAt_some
def Jcx (B:Nat) (w:World) (ls:List ByteArray) (e:Ending):Prop:=∃ i la ln lc pa pn pc,e=.returned (.agg #[.int .i64 i,.slice la ln lc,.slice pa pn pc])/\Zal 1 Zap B w (.slice la ln lc) ls
set_option maxRecDepth 100000 in
set_option maxHeartbeats 4000000 in
theorem Zsi (g:Zx) (id:Int) (v:Value) (B:Nat) (w:World) (hB:B<=w.heap.size) (h:Zp B w v g) (a3:g.nodes.length<=100) :
  Calls Tryz.prog 107 #[v,.int .i64 id] w fun e w'=>Jcx B w (Zt g.nodes id) e/\Below w.heap.size w w':=by
 obtain ⟨na,nc,ra,rc,rfl,hn,hr⟩:=h
 obtain ⟨xs,I,M,a1⟩:=Zk6 hn
 obtain ⟨xa,xc,C,a5,b3,H⟩:=a1
 have T:=Za H
 have G:=Za (And.intro I M)
 obtain ⟨nn,o⟩:∃ n,g.nn=n:=⟨_,rfl⟩
 obtain ⟨nr,l⟩:∃ n,g.nr=n:=⟨_,rfl⟩
 obtain ⟨m2,hm2⟩:∃ n,g.rels.length=n:=⟨_,rfl⟩
 obtain ⟨m,hm⟩:∃ n,g.nodes.length=n:=⟨_,rfl⟩
 have HM:=Za hm
 rw [o,l,hm2,hm]
 rw [hm] at a3 C
 obtain ⟨rfl,e2,rfl⟩:na=xa/\m=xs.length/\nc=xc:=by injection C with a b c;exact ⟨a,b,c⟩
 have a2:=Za e2
 rw [<- e2] at a5
 clear hn hr I M H o l hm2 hm C e2
 obtain ⟨s,d⟩:∃ s,w.alloc (.cells #[.slice na m nc,.slice ra m2 rc,.int .i64 nn,.int .i64 nr] 25)=s:=⟨_,rfl⟩
 have r1:Rec s w.heap.size #[.slice na m nc,.slice ra m2 rc,.int .i64 nn,.int .i64 nr] 25:=by rw [<- d];exact Zk _ _ _
 have b1:Below w.heap.size w s:=by rw [<- d];exact (Below.refl _ _).alloc (Nat.le_refl _) _
 have N:s.heap.size=w.heap.size+1:=by rw [<- d];simp
 have U:=Za d
 obtain ⟨W2,k⟩:∃ W,s.alloc (.cells #[.int .i64 0,.slice none 0 0,.slice none 0 0] 73)=W:=⟨_,rfl⟩
 have r2:Rec W2 (w.heap.size+1) #[.int .i64 0,.slice none 0 0,.slice none 0 0] 73:=by rw [<- k,<- N];exact Zk _ _ _
 have V:Below s.heap.size s W2:=by rw [<- k];exact Zc _ _
 have D:=Za (Below.on b1 V)
 have Q:=Za r2
 have c0:=(r1.below V r1.lt).cell 0 rfl
 have q0:=r2.cell 0 rfl
 have q1:=r2.cell 1 rfl
 have q2:=r2.cell 2 rfl
 have a8:=r2.z 0
 have a9:=r2.z 1
 have b0:=r2.z 2
 have a4:=Za k
 clear d b1 r1 k r2 V N
 go_enter Tryz.func107,Tryz.ntmps107
 go_upto_region 1 with fail
 try rw [U.out]
 try rw [a4.out]
 go_wp2_with fail
 go_loopw [5] (fun i wr=>∃ (j:Nat),j<=m/\i=.int .i64 j/\Zt g.nodes id=Zt (g.nodes.drop j) id/\wr=W2) (fun i _=>m - (intOf i).toNat)
 case atStart=>exact ⟨0,Nat.zero_le _,rfl,rfl,rfl⟩
 case round =>
  obtain ⟨j,hj,rfl,hl,rfl⟩:=hrel
  have HL:=Za hl
  clear hl
  by_cases hlt:j<m
  ·have O:(j:Int)<m:=by omega
   have K:j<xs.length:=by have:=a2.out;omega
   have R:j<g.nodes.length:=by have:=G.out.1;omega
   obtain ⟨n,hn⟩:∃ n,g.nodes[j]?=some n:=⟨_,List.getElem?_eq_getElem R⟩
   obtain ⟨⟨u,⟨la,ln,lc⟩,⟨pa,pn,pc⟩⟩,E⟩:∃ x,xs[j]?=some x:=⟨_,List.getElem?_eq_getElem K⟩
   have hid:=(G.out.2 j n _ hn E)
   have t:u=n.id:=hid.1
   have q:ln=n.labels.length:=hid.2.1
   have HD:=Za (Zlr hn id)
   obtain ⟨bl,off,rfl,A,S⟩:=T.out.resolve_left (by intro e;rw [e] at E;simp at E)
   have f:Below B w wr:=D.out.mono hB
   have d0:=(f.cell (p:=⟨bl,off+j*3+0,none⟩) A).trans (S j _ E 0 _ rfl)
   have d1:=(f.cell (p:=⟨bl,off+j*3+1,none⟩) A).trans (S j _ E 1 _ rfl)
   simp only [slV,Nat.add_zero] at d0 d1
   have P:=Za t
   have Y:Hid (Zal 1 Zap B w (.slice la ln lc) n.labels):=by
    show Zal _ _ _ _ _ _
    rw [q];exact Zie hid.2.2.2.1 hid.2.2.1
   have a7:=Za (S j _ E)
   clear K R hn E hid t q S
   have d2:=(f.cell (p:=⟨bl,off+j*3+2,none⟩) A).trans (a7.out 2 _ rfl)
   simp only [slV] at d2
   clear f
   by_cases hq:u=id
   ·have a0:(u==id)=true:=by simpa using hq
    have X:Hid (Zt g.nodes id=n.labels):=by
     show _=_
     rw [HL.out,HD.out,if_pos (by rw [<- P.out];exact hq)]
    clear hq
    go_wp2_with fail
    have L:=Jm (Jm (Jm (Zev Q.out) 0 (.int .i64 u)) 1 (.slice la ln lc)) 2 (.slice pa pn pc)
    have F:Rec _ (w.heap.size+1) #[.int .i64 u,.slice la ln lc,.slice pa pn pc] 73:=L.r
    have y:=L.below
    refine bodyPost_ret (results_cell_row rfl _ _ (w.heap.size+1) 73 _ (0,0) _ rfl F Tryz.underlying73 rfl (by kernel_rfl)) rfl ⟨⟨u,la,ln,lc,pa,pn,pc,rfl,?_⟩,?_⟩
    ·rw [X.out];exact Y.out
    ·exact D.out.trans (y.mono (Nat.le_succ _))
   ·have a0:(u==id)=false:=by simpa using hq
    have a6:Hid (Zt g.nodes id=Zt (g.nodes.drop (j+1)) id):=by
     show _=_
     rw [HL.out,HD.out,if_neg (by rw [<- P.out];exact hq)]
    clear hq
    go_wp2_with fail
    go_roundw
    case rel=>exact ⟨j+1,by omega,by go_num,a6.out,by first | rfl | trivial⟩
    case measure=>simp [intOf];omega
  ·have O:¬ (j:Int)<m:=by omega
   have X:Hid (Zt g.nodes id=[]):=by
    show _=_
    rw [HL.out,List.drop_eq_nil_of_le (by have:=HM.out;omega)];rfl
   go_wp2_with fail
   have L:=Jm (Jm (Jm (Zev Q.out) 0 (.int .i64 0)) 1 (.slice none 0 0)) 2 (.slice none 0 0)
   have F:Rec _ (w.heap.size+1) #[.int .i64 0,.slice none 0 0,.slice none 0 0] 73:=L.r
   have y:=L.below
   refine bodyPost_ret (results_cell_row rfl _ _ (w.heap.size+1) 73 _ (0,0) _ rfl F Tryz.underlying73 rfl (by kernel_rfl)) rfl ⟨⟨0,none,0,0,none,0,0,rfl,?_⟩,?_⟩
   ·rw [X.out];exact Zb4 1 Zap _ _
   ·exact D.out.trans (y.mono (Nat.le_succ _))
end Go.Proofs.YthfilnflgahcjaaGreatDoor

namespace Go.Proofs.YthfilnflgahcjaaGreatDoor
open Go.RowKit Go.Shelf Go.Maps
set_option linter.all false
attribute [local go_sem] Oper.semAt_some
def Zfb (ns:List Zj) (kind lab:ByteArray) (out:Bool) (r:Zbr):Int:=if r.type=kind/\Zdj lab (Zt ns (if out=true then r.fr else r.tt))=true then 1 else 0
def Zvl (ns:List Zj) (rs:List Zbr) (kind lab:ByteArray) (out:Bool):Int:=Jh (Zfb ns kind lab out) rs
def Za8 (ns:List Zj) (rs:List Zbr) (kind lab:ByteArray) (out:Bool):List Zae:=if 0<Zvl ns rs kind lab out then [(kind,lab,out,Zvl ns rs kind lab out)] else []
theorem Ztw (ns:List Zj) (kind lab:ByteArray) (out:Bool) (r:Zbr):0<=Zfb ns kind lab out r/\Zfb ns kind lab out r<=1:=by unfold Zfb;split<;>omega
theorem Zr2 (i:Int) (la:Option Addr) (ln lc:Nat) (pa:Option Addr) (pn pc:Nat) (w:World):(Instr.field 73 (.agg #[.int .i64 i,.slice la ln lc,.slice pa pn pc]) 1).run Tryz.prog w=.ok (.slice la ln lc) w:=by
 have h1:=run_underlying Tryz.underlying73 w
 have T:=Tryz.isAgg43 w
 simp [Instr.field,Sem.run_bind,h1,asAgg,part,T]
attribute [local go_sem] Zr2
set_option maxRecDepth 100000 in
set_option maxHeartbeats 8000000 in
theorem Zr3 (g:Zx) (kind lab:ByteArray) (out:Bool) (es:List Zae) (Q v:Value) (base B:Nat) (w:World) (hB:B<=w.heap.size) (C:base<=w.heap.size) (h:Zp B w v g) (d4:g.nodes.length<=100) (d6:g.rels.length<=100) (ho:Jb 64 4 Zc7 base w Q es) (c5:es.length<=990000) :
  Calls Tryz.prog 51 #[Q,v,.string kind,.string lab,.bool out] w fun e w'=>∃ v',e=.returned v'/\Jb 64 4 Zc7 base w' v' (es++Za8 g.nodes g.rels kind lab out)/\Below base w w'/\∀ q,some q≠Q.ownBlock->q<w.heap.size->w'.heap[q]?=w.heap[q]?:=by
 have HG:=Za h
 have HO:=Za ho
 obtain ⟨ea,ec,rfl⟩:=ho.slice
 obtain ⟨em,X⟩:∃ n,es.length=n:=⟨_,rfl⟩
 have c8:=Za X
 rw [X] at HO c5 |-
 clear X ho
 obtain ⟨na,nc,ra,rc,rfl,hn,hr⟩:=h
 obtain ⟨ys,b5,b3,c7⟩:=Zxd hr
 obtain ⟨ya,yc,a7,c6,d9,b2⟩:=c7
 have d5:=Za b2
 have b7:=Za (And.intro b5 b3)
 obtain ⟨nn,S⟩:∃ n,g.nn=n:=⟨_,rfl⟩
 obtain ⟨nr,R⟩:∃ n,g.nr=n:=⟨_,rfl⟩
 obtain ⟨m,hm⟩:∃ n,g.nodes.length=n:=⟨_,rfl⟩
 obtain ⟨m2,hm2⟩:∃ n,g.rels.length=n:=⟨_,rfl⟩
 have HM:=Za (And.intro hm hm2)
 rw [S,R,hm2,hm] at HG |-
 rw [hm] at d4
 rw [hm2] at d6 a7
 obtain ⟨rfl,e2,rfl⟩:ra=ya/\m2=ys.length/\rc=yc:=by injection a7 with a b c;exact ⟨a,b,c⟩
 have b8:=Za e2
 rw [<- e2] at c6
 clear hn hr b5 b3 b2 S R hm hm2 a7 e2
 obtain ⟨W1,M⟩:∃ W1,w.alloc (.cells #[.slice na m nc,.slice ra m2 rc,.int .i64 nn,.int .i64 nr] 25)=W1:=⟨_,rfl⟩
 have r1:Rec W1 w.heap.size #[.slice na m nc,.slice ra m2 rc,.int .i64 nn,.int .i64 nr] 25:=by rw [<- M];exact Zk _ _ _
 have b1:Below w.heap.size w W1:=by rw [<- M];exact (Below.refl _ _).alloc (Nat.le_refl _) _
 have b6:=Za M
 have d0:=Za b1
 have D:=Za r1
 clear M b1 r1
 have G:Hid (∀ W i,Below w.heap.size w W->Calls Tryz.prog 107 #[.agg #[.slice na m nc,.slice ra m2 rc,.int .i64 nn,.int .i64 nr],.int .i64 i] W fun e w'=>Jcx B W (Zt g.nodes i) e/\Below W.heap.size W w'):=fun W i hb=>Zsi g i _ B W (Nat.le_trans hB hb.size) (HG.out.below (hb.mono hB)) (by have:=HM.out.1;omega)
 go_enter Tryz.func51,Tryz.ntmps51
 go_upto_region 1 with fail
 try rw [b6.out]
 go_wp2_with fail
 go_loopw [12,11] (fun i o wr=>∃ (j:Nat),j<=m2/\i=.int .i64 j/\o=.int .i64 (Jh (Zfb g.nodes kind lab out) (g.rels.take j))/\Below W1.heap.size W1 wr) (fun i _ _=>m2 - (intOf i).toNat)
 case atStart=>exact ⟨0,Nat.zero_le _,rfl,by rw [List.take_zero];rfl,Below.refl _ _⟩
 case round =>
  obtain ⟨j,hj,rfl,rfl,F⟩:=hrel
  have I:=Za F
  have d:=Za (Below.on d0.out F)
  have c1:=(D.out.below F D.out.lt).cell 1 rfl
  have c0:=(D.out.below F D.out.lt).cell 0 rfl
  have c2:=(D.out.below F D.out.lt).cell 2 rfl
  have c3:=(D.out.below F D.out.lt).cell 3 rfl
  obtain ⟨N,hN⟩:∃ N,Jh (Zfb g.nodes kind lab out) (g.rels.take j)=N:=⟨_,rfl⟩
  have HN:=Za hN
  have d8:0<=N/\N<=j:=by
   have a1:=Zdr (f:=Zfb g.nodes kind lab out) (l:=g.rels.take j) fun r _=>(Ztw _ _ _ _ r).1
   have a2:=Zem (f:=Zfb g.nodes kind lab out) (c:=1) (l:=g.rels.take j) fun r _=>(Ztw _ _ _ _ r).2
   rw [List.length_take] at a2
   omega
  rw [hN]
  clear hN F
  by_cases hlt:j<m2
  ·have b4:(j:Int)<m2:=by omega
   obtain ⟨r,hr⟩:∃ q,g.rels[j]?=some q:=⟨_,List.getElem?_eq_getElem (by have:=HM.out.2;omega)⟩
   obtain ⟨⟨yi,yf,yt,ty,⟨pa,pn,pc⟩⟩,hy⟩:∃ y,ys[j]?=some y:=⟨_,List.getElem?_eq_getElem (by have:=b8.out;omega)⟩
   have hid:yi=r.id/\yf=r.fr/\yt=r.tt/\ty=r.type:=(b7.out.2 j r _ hr hy).1
   have A:Hid (Jh (Zfb g.nodes kind lab out) (g.rels.take (j+1))=N+Zfb g.nodes kind lab out r):=by show _=_;rw [Zll hr,HN.out]
   obtain ⟨bl,off,rfl,V,hc⟩:=d5.out.resolve_left (by intro e;rw [e] at hy;simp at hy)
   have O:Below B w wr:=d.out.mono hB
   have d1:=(O.cell (p:=⟨bl,off+j*5+1,none⟩) V).trans (hc j _ hy 1 _ rfl)
   have d2:=(O.cell (p:=⟨bl,off+j*5+2,none⟩) V).trans (hc j _ hy 2 _ rfl)
   have d3:=(O.cell (p:=⟨bl,off+j*5+3,none⟩) V).trans (hc j _ hy 3 _ rfl)
   simp only at d1 d2 d3
   obtain ⟨id,K⟩:∃ i:Int,(if out=true then yf else yt)=i:=⟨_,rfl⟩
   have HV:Hid (Zfb g.nodes kind lab out r=if ty=kind/\Zdj lab (Zt g.nodes id)=true then 1 else 0):=by
    show _=_
    unfold Zfb
    rw [<- hid.2.2.2,<- hid.2.1,<- hid.2.2.1,K]
   have a4:=Za K
   clear hr hy hid hc O K
   by_cases hk:ty=kind
   ·have c4:=Zec hk
    have HK:=Za hk
    clear hk
    obtain ⟨hb,a0⟩:∃ b,Zdj lab (Zt g.nodes id)=b:=⟨_,rfl⟩
    have L:Hid (∀ W Q,Below w.heap.size w W->Zal 1 Zap B W Q (Zt g.nodes id)->Calls Tryz.prog 49 #[Q,.string lab] W fun e w'=>e=.returned (.bool hb)/\w'=W):=fun W Q d7 hs=>by
     have h:=Znn (Zt g.nodes id) lab Q B W hs
     rwa [a0] at h
    have P:=Za a0
    clear a0
    cases out with
    | true =>
     obtain rfl:yf=id:=a4.out
     cases hb with
     | true =>
      have H:Hid (Jh (Zfb g.nodes kind lab true) (g.rels.take (j+1))=N+1):=by show _=_;rw [A.out,HV.out,if_pos ⟨HK.out,P.out⟩]
      go_wp2_with (first | (go_at_call 107;refine (G.out _ _ d.out).mono ?_;rintro e w8 ⟨⟨i8,a5,U,a8,Y,a3,a9,rfl,z⟩,s⟩;have E:=Za z;have k:=Za s;clear z s;try dsimp only) | (go_at_call 49;refine (L.out _ _ (Below.on d.out k.out) (E.out.keep (k.out.mono (Nat.le_trans hB d.out.size)))).mono ?_;rintro e _ ⟨rfl,rfl⟩))
      go_roundw
      case rel=>exact ⟨j+1,by omega,by go_num,by rw [H.out],Below.on I.out k.out⟩
      case measure=>simp [intOf];omega
     | false =>
      have H:Hid (Jh (Zfb g.nodes kind lab true) (g.rels.take (j+1))=N):=by show _=_;rw [A.out,HV.out,if_neg (by rw [P.out];simp)];omega
      go_wp2_with (first | (go_at_call 107;refine (G.out _ _ d.out).mono ?_;rintro e w8 ⟨⟨i8,a5,U,a8,Y,a3,a9,rfl,z⟩,s⟩;have E:=Za z;have k:=Za s;clear z s;try dsimp only) | (go_at_call 49;refine (L.out _ _ (Below.on d.out k.out) (E.out.keep (k.out.mono (Nat.le_trans hB d.out.size)))).mono ?_;rintro e _ ⟨rfl,rfl⟩))
      go_roundw
      case rel=>exact ⟨j+1,by omega,by go_num,by rw [H.out],Below.on I.out k.out⟩
      case measure=>simp [intOf];omega
    | false =>
     obtain rfl:yt=id:=a4.out
     cases hb with
     | true =>
      have H:Hid (Jh (Zfb g.nodes kind lab false) (g.rels.take (j+1))=N+1):=by show _=_;rw [A.out,HV.out,if_pos ⟨HK.out,P.out⟩]
      go_wp2_with (first | (go_at_call 107;refine (G.out _ _ d.out).mono ?_;rintro e w8 ⟨⟨i8,a5,U,a8,Y,a3,a9,rfl,z⟩,s⟩;have E:=Za z;have k:=Za s;clear z s;try dsimp only) | (go_at_call 49;refine (L.out _ _ (Below.on d.out k.out) (E.out.keep (k.out.mono (Nat.le_trans hB d.out.size)))).mono ?_;rintro e _ ⟨rfl,rfl⟩))
      go_roundw
      case rel=>exact ⟨j+1,by omega,by go_num,by rw [H.out],Below.on I.out k.out⟩
      case measure=>simp [intOf];omega
     | false =>
      have H:Hid (Jh (Zfb g.nodes kind lab false) (g.rels.take (j+1))=N):=by show _=_;rw [A.out,HV.out,if_neg (by rw [P.out];simp)];omega
      go_wp2_with (first | (go_at_call 107;refine (G.out _ _ d.out).mono ?_;rintro e w8 ⟨⟨i8,a5,U,a8,Y,a3,a9,rfl,z⟩,s⟩;have E:=Za z;have k:=Za s;clear z s;try dsimp only) | (go_at_call 49;refine (L.out _ _ (Below.on d.out k.out) (E.out.keep (k.out.mono (Nat.le_trans hB d.out.size)))).mono ?_;rintro e _ ⟨rfl,rfl⟩))
      go_roundw
      case rel=>exact ⟨j+1,by omega,by go_num,by rw [H.out],Below.on I.out k.out⟩
      case measure=>simp [intOf];omega
   ·have c4:=Zfz hk
    have H:Hid (Jh (Zfb g.nodes kind lab out) (g.rels.take (j+1))=N):=by show _=_;rw [A.out,HV.out,if_neg (fun h=>hk h.1)];omega
    clear hk HV a4
    cases out with
    | true =>
     go_wp2_with fail
     go_roundw
     case rel=>exact ⟨j+1,by omega,by go_num,by rw [H.out],I.out⟩
     case measure=>simp [intOf];omega
    | false =>
     go_wp2_with fail
     go_roundw
     case rel=>exact ⟨j+1,by omega,by go_num,by rw [H.out],I.out⟩
     case measure=>simp [intOf];omega
  ·have b4:¬ (j:Int)<m2:=by omega
   have H:Hid (Zvl g.nodes g.rels kind lab out=N):=by show _=_;unfold Zvl;rw [<- HN.out,List.take_of_length_le (by have:=HM.out.2;omega)]
   have b0:=Za (HO.out.below d.out)
   by_cases hp:0<N
   ·have a6:Hid (Za8 g.nodes g.rels kind lab out=[(kind,lab,out,N)]):=by show _=_;unfold Za8;rw [H.out,if_pos hp]
    obtain ⟨v',W',p1,p2,p3,p4⟩:=Jd (t:=30) (ty:=30) (c:=1) (bl:=wr.heap.size) (off:=0) (x:=((kind,lab,out,N):Zae)) Zpz (fun _=>rfl) Zla (b0.out.below (Zc wr (.cells #[.string kind,.string lab,.bool out,.int .i64 N] 64))) (fun jj u hu=>by
     rw [Nat.zero_add];exact Zh _ _ _ _ _ (by simpa [Zc7] using hu)) (by have:=c8.out;omega) (Nat.le_trans C (by have:=d.out.size;simp;omega))
    have c9:=Za p2
    have k:Hid (Below base w W'):=(d.out.mono C).trans (((Zc wr _).mono (Nat.le_trans C d.out.size)).trans p3)
    have b9:Hid (∀ q,some q≠(Value.slice ea em ec).ownBlock->q<w.heap.size->W'.heap[q]?=w.heap[q]?):=fun q h1 T=>(p4 q h1 (Nat.lt_of_lt_of_le T (Nat.le_trans d.out.size (Zc wr _).size))).trans (((Zc wr _).block q (Nat.lt_of_lt_of_le T d.out.size)).trans (d.out.block q T))
    clear p2 p3 p4
    go_wp2_with (at_builtin;refine Lib.wpList_append_run _ rfl _ _ _ _ rfl _ _ rfl rfl _ _ p1 ?_)
    go_ret
    exact ⟨_,rfl,by rw [a6.out];exact c9.out,k.out,b9.out⟩
   ·have a6:Hid (Za8 g.nodes g.rels kind lab out=[]):=by show _=_;unfold Za8;rw [H.out,if_neg hp]
    go_wp2_with fail
    go_ret
    exact ⟨_,rfl,by rw [a6.out,List.append_nil];exact b0.out,d.out.mono C,fun q _ T=>d.out.block q T⟩
end Go.Proofs.YthfilnflgahcjaaGreatDoor

namespace Go.Proofs.YthfilnflgahcjaaGreatDoor
open Go.RowKit Go.Shelf Go.Maps
set_option linter.all false
theorem Zas {α β:Type} {e N k R base p:Nat} {enc:α->List Value} {G:β->List Value} {w w1 w':World} {v c:Value} {xs:List α} {L:List β} (H:e≠N) (h:Jb e k enc base w v xs) (S:Jb N R G p w c L) (hb:Below w.heap.size w w1) (Q:∀ g,some g≠c.ownBlock->g<w1.heap.size->w'.heap[g]?=w1.heap[g]?):Jb e k enc base w' v xs:=by
 obtain ⟨A,n⟩:=h
 refine ⟨A,n.imp id fun ⟨g,cap,I,d,j,M,U⟩=>⟨g,cap,I,d,j,?_,U⟩⟩
 have hg:g<w.heap.size:=(Array.getElem?_eq_some_iff.1 M).1
 rw [Q g ?_ (Nat.lt_of_lt_of_le hg hb.size),hb.block g hg,M]
 intro F
 rcases S.2 with ⟨e1,_⟩ | ⟨g',O,P,e1,_,K,_⟩
 ·rw [e1] at F;cases F
 ·rw [e1] at F
  simp only [Value.ownBlock,Option.some.injEq] at F
  subst F
  rw [M] at K
  simp only [Option.some.injEq,Obj.cells.injEq] at K
  exact H K.2.1
structure CtI (WT:World) (X:Nat) (m m2:Int) (vl vt ve vk:Value) (ls ts:List (ByteArray × Int)) (es:List Zae) (ks:List Zav) (wr:World):Prop where
 r:Rec wr X #[.int .i64 m,.int .i64 m2,vl,vt,ve,vk] 33
 l:Jb 42 2 Za0 WT.heap.size wr vl ls
 t:Jb 62 2 Za0 WT.heap.size wr vt ts
 e:Jb 64 4 Zc7 WT.heap.size wr ve es
 k:Jb 66 4 Zd3 WT.heap.size wr vk ks
 f:∀ g,g≠X->g<WT.heap.size->wr.heap[g]?=WT.heap[g]?
 b:Below X WT wr
 z:WT.heap.size<=wr.heap.size
 x:X<WT.heap.size
section
variable {WT:World} {X:Nat} {m m2:Int} {vl vt ve vk:Value} {ls ts:List (ByteArray × Int)} {es:List Zae} {ks:List Zav} {wr wr':World}
theorem CtI.up (h:CtI WT X m m2 vl vt ve vk ls ts es ks wr) (hb:Below wr.heap.size wr wr'):CtI WT X m m2 vl vt ve vk ls ts es ks wr' :=
 ⟨h.r.below hb h.r.lt,h.l.below hb,h.t.below hb,h.e.below hb,h.k.below hb,fun g A n=>(hb.block g (Nat.lt_of_lt_of_le n h.z)).trans (h.f g A n),h.b.trans (hb.mono (Nat.le_of_lt (Nat.lt_of_lt_of_le h.x h.z))),Nat.le_trans h.z hb.size,h.x⟩
theorem Za1 {α:Type} {e k base X i:Nat} {enc:α->List Value} {w:World} {v u:Value} {xs:List α} (hx:X<base) (h:Jb e k enc base w v xs):Jb e k enc base (w.setCell ⟨X,i,none⟩ u) v xs :=
 h.keep fun g hg _=>Below.heap_setCell _ _ _ _ (by show g≠X;omega)
theorem Zin {W:World} {cs:Array Value} (Y:X<WT.heap.size) (hr:Rec W X cs 33) (T:∀ g,g≠X->g<WT.heap.size->W.heap[g]?=WT.heap[g]?) (hb:Below X WT W) (V:WT.heap.size<=W.heap.size) (i:Nat) (u:Value) :
  Rec (W.setCell ⟨X,i,none⟩ u) X (cs.setIfInBounds i u) 33/\(∀ g,g≠X->g<WT.heap.size->(W.setCell ⟨X,i,none⟩ u).heap[g]?=WT.heap[g]?)/\Below X WT (W.setCell ⟨X,i,none⟩ u)/\WT.heap.size<=(W.setCell ⟨X,i,none⟩ u).heap.size :=
 ⟨hr.set i u,fun g A n=>(Below.heap_setCell _ _ _ _ A).trans (T g A n),hb.setCell (Nat.le_refl _) _,by simpa [World.setCell] using V⟩
theorem CtI.lab (h:CtI WT X m m2 vl vt ve vk ls ts es ks wr) {w1 W:World} {c:Value} {B:List (ByteArray × Int)} (hb:Below wr.heap.size wr w1) (n:Jb 42 2 Za0 WT.heap.size W c B) (d:Below WT.heap.size w1 W) (j:∀ g,some g≠vl.ownBlock->g<w1.heap.size->W.heap[g]?=w1.heap[g]?):CtI WT X m m2 c vt ve vk B ts es ks (W.setCell ⟨X,2,none⟩ c):=by
 have a:=h.up hb
 have s:Below X WT W:=a.b.trans (d.mono (Nat.le_of_lt h.x))
 obtain ⟨p1,p2,p3,q⟩:=Zin h.x (a.r.below d h.x) (fun g y o=>(d.block g o).trans (a.f g y o)) s (Nat.le_trans a.z d.size) 2 c
 exact ⟨p1,Za1 h.x n,Za1 h.x (Zas (by decide) h.t h.l hb j),Za1 h.x (Zas (by decide) h.e h.l hb j),Za1 h.x (Zas (by decide) h.k h.l hb j),p2,p3,q,h.x⟩
theorem CtI.typ (h:CtI WT X m m2 vl vt ve vk ls ts es ks wr) {w1 W:World} {c:Value} {C:List (ByteArray × Int)} (hb:Below wr.heap.size wr w1) (n:Jb 62 2 Za0 WT.heap.size W c C) (d:Below WT.heap.size w1 W) (j:∀ g,some g≠vt.ownBlock->g<w1.heap.size->W.heap[g]?=w1.heap[g]?):CtI WT X m m2 vl c ve vk ls C es ks (W.setCell ⟨X,3,none⟩ c):=by
 have a:=h.up hb
 have s:Below X WT W:=a.b.trans (d.mono (Nat.le_of_lt h.x))
 obtain ⟨p1,p2,p3,q⟩:=Zin h.x (a.r.below d h.x) (fun g y o=>(d.block g o).trans (a.f g y o)) s (Nat.le_trans a.z d.size) 3 c
 exact ⟨p1,Za1 h.x (Zas (by decide) h.l h.t hb j),Za1 h.x n,Za1 h.x (Zas (by decide) h.e h.t hb j),Za1 h.x (Zas (by decide) h.k h.t hb j),p2,p3,q,h.x⟩
theorem CtI.end_ (h:CtI WT X m m2 vl vt ve vk ls ts es ks wr) {w1 W:World} {c:Value} {E:List Zae} (hb:Below wr.heap.size wr w1) (n:Jb 64 4 Zc7 WT.heap.size W c E) (d:Below WT.heap.size w1 W) (j:∀ g,some g≠ve.ownBlock->g<w1.heap.size->W.heap[g]?=w1.heap[g]?):CtI WT X m m2 vl vt c vk ls ts E ks (W.setCell ⟨X,4,none⟩ c):=by
 have a:=h.up hb
 have s:Below X WT W:=a.b.trans (d.mono (Nat.le_of_lt h.x))
 obtain ⟨p1,p2,p3,q⟩:=Zin h.x (a.r.below d h.x) (fun g y o=>(d.block g o).trans (a.f g y o)) s (Nat.le_trans a.z d.size) 4 c
 exact ⟨p1,Za1 h.x (Zas (by decide) h.l h.e hb j),Za1 h.x (Zas (by decide) h.t h.e hb j),Za1 h.x n,Za1 h.x (Zas (by decide) h.k h.e hb j),p2,p3,q,h.x⟩
theorem CtI.key (h:CtI WT X m m2 vl vt ve vk ls ts es ks wr) {w1 W:World} {c:Value} {D:List Zav} (hb:Below wr.heap.size wr w1) (n:Jb 66 4 Zd3 WT.heap.size W c D) (d:Below WT.heap.size w1 W) (j:∀ g,some g≠vk.ownBlock->g<w1.heap.size->W.heap[g]?=w1.heap[g]?):CtI WT X m m2 vl vt ve c ls ts es D (W.setCell ⟨X,5,none⟩ c):=by
 have a:=h.up hb
 have s:Below X WT W:=a.b.trans (d.mono (Nat.le_of_lt h.x))
 obtain ⟨p1,p2,p3,q⟩:=Zin h.x (a.r.below d h.x) (fun g y o=>(d.block g o).trans (a.f g y o)) s (Nat.le_trans a.z d.size) 5 c
 exact ⟨p1,Za1 h.x (Zas (by decide) h.l h.k hb j),Za1 h.x (Zas (by decide) h.t h.k hb j),Za1 h.x (Zas (by decide) h.e h.k hb j),Za1 h.x n,p2,p3,q,h.x⟩
end
end Go.Proofs.YthfilnflgahcjaaGreatDoor

namespace Go.Proofs.YthfilnflgahcjaaGreatDoor
open Go.RowKit Go.Shelf Go.Maps
set_option linter.all false
attribute [local go_sem] Oper.semAt_some
noncomputable def Js (ts:List ByteArray):List ByteArray:=ts.foldl (fun a t=>Zet t a) []
theorem Zjd (ts:List ByteArray) (t:ByteArray):Js (ts++[t])=Zet t (Js ts):=by simp [Js]
theorem Zt8 (s:ByteArray):∀ (ls:List ByteArray),(Zet s ls).length<=ls.length+1
 | []=>by simp [Zet]
 | x::r=>by
  rw [Zet]
  split
  ·have:=Zt8 s r;simp;omega
  ·split<;>simp
theorem Zsk (s:ByteArray) (ls:List ByteArray):Zet s ls≠[]:=by
 cases ls with
 | nil=>simp [Zet]
 | cons x r=>rw [Zet];split;simp;split<;>simp
theorem Zep (ts:List ByteArray):(Js ts).length<=ts.length:=by
 unfold Js
 suffices h:∀ (ts a:List ByteArray),(ts.foldl (fun a t=>Zet t a) a).length<=a.length+ts.length by
  have:=h ts []
  simpa using this
 intro ts
 induction ts with
 | nil=>intro a;simp
 | cons x r ih =>
  intro a
  have u:=ih (Zet x a)
  have p:=Zt8 x a
  simp only [List.foldl_cons,List.length_cons];omega
def Za9 (ns:List Zj):List ByteArray:=ns.flatMap fun n=>n.props.map Prod.fst
theorem Zyv {ns:List Zj} {j:Nat} {x:Zj} (h:ns[j]?=some x):Za9 (ns.take (j+1))=Za9 (ns.take j)++x.props.map Prod.fst:=by
 unfold Za9
 rw [List.take_add_one,h,List.flatMap_append];simp
theorem Zqq {α:Type} {A:List α} {f:Zj->List α} {ns:List Zj} (v:A=ns.flatMap f) {j:Nat} {x:Zj} (h:ns[j]?=some x) (k:Nat):((ns.take j).flatMap f++(f x).take k).length<=A.length:=by
 have u:ns.flatMap f=(ns.take (j+1)).flatMap f++(ns.drop (j+1)).flatMap f:=by rw [<- List.flatMap_append,List.take_append_drop]
 have p:(ns.take (j+1)).flatMap f=(ns.take j).flatMap f++f x:=by rw [List.take_add_one,h,List.flatMap_append];simp
 rw [v,u,p]
 simp only [List.length_append,List.length_take];omega
structure Jgg (g:Zx) (B m m2 nc rc:Nat) (na ra:Option Addr) (nn nr:Int) (w c:World):Prop where
 hB:B<=w.heap.size
 hm:g.nodes.length=m
 hm2:g.rels.length=m2
 m60:m<=60
 m60':m2<=60
 ll:(Zi g.nodes).length<=100000
 kk:(Za9 g.nodes).length<=100000
 vv:∀ l k,(Jw l k g.nodes).length<=100000
 kn:∀ n ∈ g.nodes,∀ q ∈ n.props,Zeh q.2
 b3:Below w.heap.size w c
 rg:Rec c w.heap.size #[.slice na m nc,.slice ra m2 rc,.int .i64 nn,.int .i64 nr] 25
 rx:Rec c (w.heap.size+2) #[.int .i64 m,.int .i64 m2,.slice none 0 0,.slice none 0 0,.slice none 0 0,.slice none 0 0] 33
 r2:Rec c (w.heap.size+1) #[.int .i64 0,.int .i64 0,.slice none 0 0,.slice none 0 0,.slice none 0 0,.slice none 0 0] 33
 hg:Zp B w (.agg #[.slice na m nc,.slice ra m2 rc,.int .i64 nn,.int .i64 nr]) g
 hn:Zfc B w (.slice na m nc) g.nodes
 hr:Zgd B w (.slice ra m2 rc) g.rels
structure TxI (c:World) (d v2:Value) (l1 l2:List ByteArray) (wr:World):Prop where
 s1:Zal 1 Zap wr.heap.size wr d l1
 z1:l1=[]->d=.slice none 0 0
 s2:Zal 1 Zap wr.heap.size wr v2 l2
 z2:l2=[]->v2=.slice none 0 0
 b:Below c.heap.size c wr
theorem TxI.put1 {c:World} {d v2 i:Value} {l1 l2:List ByteArray} {wr wr':World} {s:ByteArray} (h:TxI c d v2 l1 l2 wr) (o:Zal 1 Zap wr'.heap.size wr' i (Zet s l1)) (hb:Below wr.heap.size wr wr'):TxI c i v2 (Zet s l1) l2 wr' :=
 ⟨o,fun e=>absurd e (Zsk _ _),(h.s2.keep hb).mono hb.size,h.z2,h.b.trans (hb.mono h.b.size)⟩
theorem TxI.put2 {c:World} {d v2 i:Value} {l1 l2:List ByteArray} {wr wr':World} {s:ByteArray} (h:TxI c d v2 l1 l2 wr) (o:Zal 1 Zap wr'.heap.size wr' i (Zet s l2)) (hb:Below wr.heap.size wr wr'):TxI c d i l1 (Zet s l2) wr' :=
 ⟨(h.s1.keep hb).mono hb.size,h.z1,o,fun e=>absurd e (Zsk _ _),h.b.trans (hb.mono h.b.size)⟩
end Go.Proofs.YthfilnflgahcjaaGreatDoor

namespace Go.Proofs.YthfilnflgahcjaaGreatDoor
open Go.RowKit Go.Shelf Go.Maps
set_option linter.all false
attribute [local go_sem] Oper.semAt_some
set_option maxRecDepth 100000 in
set_option maxHeartbeats 16000000 in
theorem Jgj (g:Zx) (B m m2 nc rc:Nat) (na ra:Option Addr) (nn nr:Int) (w W3:World) (u7 u8 u9 O6 R8 T6 N8 O8 R3 W7 V8 U9 P8 O7 N2 N5 W5 W4 S8 O1 X0 T9 S6 R0 W0 X1 V0 R4 N0 N4 P9 U5 W1 Q9 P0 U6 U4 R7 V9 U8 W9 W2 V1 S7 U2 S0 T0 S5 T2 O9 N6 T4 N3 Q7 V5 R9 Q8 u64 O4 Q6 Q0 O3 S4 P1 Q1 N1 U0 T8 V6 M9 V3 V4 T7 U1 P5 W8 V2 S9 V7 O5 R1 N7 R6 W6 U7 Q2 Q5 T5 P3 Q3 S3 P7 P6 A4 y2 C2 E5 B5 E6 F2 B1 C0 L4 x5 M0 K1 M3 A8 H8 z7 K7 B2 M8 A3 z6 G0 y4 K6 E0 x7 B7 M7 F1 A5 D7 K5 x8 y9 B8 L2 M1 y5 H7 I3 A9 C8 M5 H2 G2 F6 C7 C4 C9 L1 L5 A7 H6 G1 I7 H5 I9 G8 F3 y7 y6 D8 C1 E9 G7 y0 z9 z3 K0 B0 C3 x6 K8 L0 K4 B3 H3 L7 G4 x4 D9 x2 D3 A2 I0 A6 D6 D5 F4 H4 D4 F5 E3 z0 I4 D2 E2 L3 H1 I2 G9 z5 y3 K3 B9 x3 I5 F7 M6 L6 M4 M2 E4 F9 y1 I1 x0 B6 E8 G5 D0 E7 I8 E1 A0:Value) (wx:World) (C:Hid (Jgg g B m m2 nc rc na ra nn nr w W3)) (T3:Hid (TxI W3 (.slice none 0 0) (.slice none 0 0) [] [] wx))
  (Q:Exit->Act->World->Prop) (K:Act->World->Prop) (hK:∀ (v7 v8 v9 r3 u3 n4 q7 w4 p3 l7 m4 p2 q3 n0 n6 t5 r6 p8 u1 v3 t9 q1 r5 w3 u4 t7 q2 t2 v0 n1 m1 n8 o3 s4 r0 m8 p9 q9 o5 s5 t0 o7 r8 n2 s8 o6 m9 q5 q8 u6 l9 n3 s3 m5 t3 r2 p5 m6 n9 w1 t6 v5 m7 n5 r9 w5 o2 n7 u0 m3 t8 v4 q6 v6 r4 t1 o9 o0 m0 s0 w0 r7 p6 t4 w6 w2 o8 p4 l8 s6 s9 r1 u5 c7 d3 k5 i5 g8 f4 e2 f5 P u l4 Y h7 i2 d7 i1 d9 a3 a5 v h8 E g1 b9 f6 j5 g7 i7 b4 h5 M b6 h0 k0 g4 a4 h6 g6 F S e1 f2 k7 y f1 b2 a8 k8 a1 a6 l2 b7 e8 h9 d5 e5 V l0 h3 i9 D j2 e9 a2 e6 h1 k3 I c6 H d6 b1 k2 e7 j6 f0 b0 b8 X i6 f3 j4 j0 O j8 i4 j1 d4 j7 k1 k6 g3 c1 i0 a7 f7 d8 j9 U c8 g9 j3 l3 c4 c2 h2 L i3 f8 d0 g5 k4 l5 G k9 c3 R l1 N e3 e4 i8 g0 c9 f9 T a b:Value) (w':World),TxI W3 a b (Js (Zi g.nodes)) (Js (Za9 g.nodes)) w'->K { tmps:=#[.agg #[.slice na m nc,.slice ra m2 rc,.int .i64 nn,.int .i64 nr],.pointer (some ⟨w.heap.size,0,none⟩),.pointer (some ⟨w.heap.size+1,0,none⟩),.pointer (some ⟨w.heap.size+2,0,none⟩),a,.slice none 0 0,b,v7,v8,v9,r3,u3,n4,q7,w4,p3,l7,m4,p2,q3,n0,n6,t5,r6,p8,u1,v3,t9,q1,r5,w3,u4,t7,q2,t2,v0,n1,m1,n8,o3,s4,r0,m8,p9,q9,o5,s5,t0,o7,r8,n2,s8,o6,m9,q5,q8,u6,l9,n3,s3,m5,t3,r2,p5,m6,n9,w1,t6,v5,m7,n5,r9,w5,o2,n7,u0,m3,t8,v4,q6,v6,r4,t1,o9,o0,m0,s0,w0,r7,p6,t4,w6,w2,o8,p4,l8,s6,s9,r1,u5,c7,d3,k5,i5,g8,f4,e2,f5,P,u,l4,Y,h7,i2,d7,i1,d9,a3,a5,v,h8,E,g1,b9,f6,j5,g7,i7,b4,h5,M,b6,h0,k0,g4,a4,h6,g6,F,S,e1,f2,k7,y,f1,b2,a8,k8,a1,a6,l2,b7,e8,h9,d5,e5,V,l0,h3,i9,D,j2,e9,a2,e6,h1,k3,I,c6,H,d6,b1,k2,e7,j6,f0,b0,b8,X,i6,f3,j4,j0,O,j8,i4,j1,d4,j7,k1,k6,g3,c1,i0,a7,f7,d8,j9,U,c8,g9,j3,l3,c4,c2,h2,L,i3,f8,d0,g5,k4,l5,G,k9,c3,R,l1,N,e3,e4,i8,g0,c9,f9,T],defers:=[] } w') :
  (Zun 3 (Tryz.f15.body.getD .skip)).wp Tryz.prog (Exit.then K Q) { tmps:=#[.agg #[.slice na m nc,.slice ra m2 rc,.int .i64 nn,.int .i64 nr],.pointer (some ⟨w.heap.size,0,none⟩),.pointer (some ⟨w.heap.size+1,0,none⟩),.pointer (some ⟨w.heap.size+2,0,none⟩),.slice none 0 0,.slice none 0 0,.slice none 0 0,u7,u8,u9,O6,R8,T6,N8,O8,R3,W7,V8,U9,P8,O7,N2,N5,W5,W4,S8,O1,X0,T9,S6,R0,W0,X1,V0,R4,N0,N4,P9,U5,W1,Q9,P0,U6,U4,R7,V9,U8,W9,W2,V1,S7,U2,S0,T0,S5,T2,O9,N6,T4,N3,Q7,V5,R9,Q8,u64,O4,Q6,Q0,O3,S4,P1,Q1,N1,U0,T8,V6,M9,V3,V4,T7,U1,P5,W8,V2,S9,V7,O5,R1,N7,R6,W6,U7,Q2,Q5,T5,P3,Q3,S3,P7,P6,A4,y2,C2,E5,B5,E6,F2,B1,C0,L4,x5,M0,K1,M3,A8,H8,z7,K7,B2,M8,A3,z6,G0,y4,K6,E0,x7,B7,M7,F1,A5,D7,K5,x8,y9,B8,L2,M1,y5,H7,I3,A9,C8,M5,H2,G2,F6,C7,C4,C9,L1,L5,A7,H6,G1,I7,H5,I9,G8,F3,y7,y6,D8,C1,E9,G7,y0,z9,z3,K0,B0,C3,x6,K8,L0,K4,B3,H3,L7,G4,x4,D9,x2,D3,A2,I0,A6,D6,D5,F4,H4,D4,F5,E3,z0,I4,D2,E2,L3,H1,I2,G9,z5,y3,K3,B9,x3,I5,F7,M6,L6,M4,M2,E4,F9,y1,I1,x0,B6,E8,G5,D0,E7,I8,E1,A0],defers:=[] } wx:=by
 have HK:Hid (∀ (v7 v8 v9 r3 u3 n4 q7 w4 p3 l7 m4 p2 q3 n0 n6 t5 r6 p8 u1 v3 t9 q1 r5 w3 u4 t7 q2 t2 v0 n1 m1 n8 o3 s4 r0 m8 p9 q9 o5 s5 t0 o7 r8 n2 s8 o6 m9 q5 q8 u6 l9 n3 s3 m5 t3 r2 p5 m6 n9 w1 t6 v5 m7 n5 r9 w5 o2 n7 u0 m3 t8 v4 q6 v6 r4 t1 o9 o0 m0 s0 w0 r7 p6 t4 w6 w2 o8 p4 l8 s6 s9 r1 u5 c7 d3 k5 i5 g8 f4 e2 f5 P u l4 Y h7 i2 d7 i1 d9 a3 a5 v h8 E g1 b9 f6 j5 g7 i7 b4 h5 M b6 h0 k0 g4 a4 h6 g6 F S e1 f2 k7 y f1 b2 a8 k8 a1 a6 l2 b7 e8 h9 d5 e5 V l0 h3 i9 D j2 e9 a2 e6 h1 k3 I c6 H d6 b1 k2 e7 j6 f0 b0 b8 X i6 f3 j4 j0 O j8 i4 j1 d4 j7 k1 k6 g3 c1 i0 a7 f7 d8 j9 U c8 g9 j3 l3 c4 c2 h2 L i3 f8 d0 g5 k4 l5 G k9 c3 R l1 N e3 e4 i8 g0 c9 f9 T a b:Value) (w':World),TxI W3 a b (Js (Zi g.nodes)) (Js (Za9 g.nodes)) w'->Exit.then K Q .normal { tmps:=#[.agg #[.slice na m nc,.slice ra m2 rc,.int .i64 nn,.int .i64 nr],.pointer (some ⟨w.heap.size,0,none⟩),.pointer (some ⟨w.heap.size+1,0,none⟩),.pointer (some ⟨w.heap.size+2,0,none⟩),a,.slice none 0 0,b,v7,v8,v9,r3,u3,n4,q7,w4,p3,l7,m4,p2,q3,n0,n6,t5,r6,p8,u1,v3,t9,q1,r5,w3,u4,t7,q2,t2,v0,n1,m1,n8,o3,s4,r0,m8,p9,q9,o5,s5,t0,o7,r8,n2,s8,o6,m9,q5,q8,u6,l9,n3,s3,m5,t3,r2,p5,m6,n9,w1,t6,v5,m7,n5,r9,w5,o2,n7,u0,m3,t8,v4,q6,v6,r4,t1,o9,o0,m0,s0,w0,r7,p6,t4,w6,w2,o8,p4,l8,s6,s9,r1,u5,c7,d3,k5,i5,g8,f4,e2,f5,P,u,l4,Y,h7,i2,d7,i1,d9,a3,a5,v,h8,E,g1,b9,f6,j5,g7,i7,b4,h5,M,b6,h0,k0,g4,a4,h6,g6,F,S,e1,f2,k7,y,f1,b2,a8,k8,a1,a6,l2,b7,e8,h9,d5,e5,V,l0,h3,i9,D,j2,e9,a2,e6,h1,k3,I,c6,H,d6,b1,k2,e7,j6,f0,b0,b8,X,i6,f3,j4,j0,O,j8,i4,j1,d4,j7,k1,k6,g3,c1,i0,a7,f7,d8,j9,U,c8,g9,j3,l3,c4,c2,h2,L,i3,f8,d0,g5,k4,l5,G,k9,c3,R,l1,N,e3,e4,i8,g0,c9,f9,T],defers:=[] } w'):=hK
 clear hK
 obtain ⟨QQ,hQ⟩:∃ QQ,Exit.then K Q=QQ:=⟨_,rfl⟩
 rw [hQ] at HK |-
 clear hQ Q K
 have HM:=Za (And.intro C.out.hm C.out.hm2)
 have HN:=Za C.out.hn
 have HR:=Za C.out.hr
 have r:=Za C.out.rg
 have A1:=Za C.out.b3
 have hB:=C.out.hB
 have X2:=C.out.m60
 have O0:=C.out.m60'
 conv =>
  arg 2
  whnf
 obtain ⟨xs,F0,H9,P2⟩:=Zk6 HN.out
 obtain ⟨xa,xc,K2,Q4,X4,C5⟩:=P2
 obtain ⟨rfl,g2,rfl⟩:na=xa/\m=xs.length/\nc=xc:=by injection K2 with a b c;exact ⟨a,b,c⟩
 have P4:=Za C5
 have S2:=Za (And.intro F0 H9)
 have N9:=Za g2
 rw [<- g2] at Q4
 clear F0 H9 C5 K2 g2
 go_wp2_with fail
 go_loopw [7,4,6] (fun i a b wr=>∃ (j:Nat) (v1 v2:Value),j<=m/\i=.int .i64 j/\v1=a/\v2=b/\TxI W3 v1 v2 (Js (Zi (g.nodes.take j))) (Js (Za9 (g.nodes.take j))) wr) (fun i _ _ _=>m - (intOf i).toNat)
 case atStart=>exact ⟨0,_,_,Nat.zero_le _,rfl,rfl,rfl,T3.out⟩
 case round =>
  obtain ⟨j,v1,v2,hj,rfl,rfl,rfl,h⟩:=hrel
  have d:=Za h
  have c0:=(r.out.below h.b r.out.lt).cell 0 rfl
  by_cases hlt:j<m
  ·have z4:(j:Int)<m:=by omega
   obtain ⟨n,hn⟩:∃ n,g.nodes[j]?=some n:=⟨_,List.getElem?_eq_getElem (by have:=HM.out.1;omega)⟩
   obtain ⟨⟨xi,⟨la,ln,lc⟩,⟨pa,pn,pc⟩⟩,t⟩:∃ x,xs[j]?=some x:=⟨_,List.getElem?_eq_getElem (by have:=N9.out;omega)⟩
   obtain ⟨-,l6,a9,q0,w9⟩:=S2.out.2 j n _ hn t
   simp only at l6 a9 q0 w9
   subst l6
   have K9:Zal 1 Zap B w (.slice la n.labels.length lc) n.labels:=Zie q0 a9
   obtain ⟨bl,off,rfl,x9,hc⟩:=P4.out.resolve_left (by intro e;rw [e] at t;simp at t)
   have HD:Hid (∀ W,Below w.heap.size w W->W.cell? ⟨bl,off+j*3+1,none⟩=some (.slice la n.labels.length lc)/\W.cell? ⟨bl,off+j*3+2,none⟩=some (.slice pa pn pc)):=fun W hb=>⟨((hb.mono hB).cell (p:=⟨bl,off+j*3+1,none⟩) x9).trans (hc j _ t 1 _ rfl),((hb.mono hB).cell (p:=⟨bl,off+j*3+2,none⟩) x9).trans (hc j _ t 2 _ rfl)⟩
   obtain ⟨zs,F8,x1,T1⟩:=Zxy w9
   obtain ⟨za,zc,z8,R2,X3,D1⟩:=T1
   obtain ⟨rfl,w7,rfl⟩:pa=za/\pn=zs.length/\pc=zc:=by injection z8 with a b c;exact ⟨a,b,c⟩
   rw [<- w7] at R2
   have o:=Za (And.intro F8 (And.intro x1 w7))
   have R5:=Za D1
   have y8:=Za K9
   obtain ⟨ln,o4⟩:∃ k,n.labels.length=k:=⟨_,rfl⟩
   have C6:=Za o4
   rw [o4] at HD y8 a9
   have L9:Hid (Js (Zi (g.nodes.take (j+1)))=Js (Zi (g.nodes.take j)++n.labels)):=by show _=_;rw [Zht hn]
   have L8:Hid (Js (Za9 (g.nodes.take (j+1)))=Js (Za9 (g.nodes.take j)++n.props.map Prod.fst)):=by show _=_;rw [Zyv hn]
   have B4:Hid (∀ k,(Zi (g.nodes.take j)++n.labels.take k).length<=100000):=fun k=>Nat.le_trans (Zqq (A:=Zi g.nodes) (f:=fun n=>n.labels) rfl hn k) C.out.ll
   have G3:Hid (∀ k,(Za9 (g.nodes.take j)++(n.props.map Prod.fst).take k).length<=100000):=fun k=>Nat.le_trans (Zqq (A:=Za9 g.nodes) (f:=fun n=>n.props.map Prod.fst) rfl hn k) C.out.kk
   obtain ⟨LJ,p1⟩:∃ l,Zi (g.nodes.take j)=l:=⟨_,rfl⟩
   obtain ⟨KJ,o1⟩:∃ l,Za9 (g.nodes.take j)=l:=⟨_,rfl⟩
   rw [p1,o1] at d
   rw [p1] at L9 B4
   rw [o1] at L8 G3
   clear h hn t q0 w9 hc F8 x1 z8 D1 K9 w7 o4 p1 o1
   go_wp2_with fail
   clear c0
   go_loopw [8,4] (fun i a wr=>∃ (k:Nat) (v1:Value),k<=ln/\i=.int .i64 k/\v1=a/\TxI W3 v1 v2 (Js (LJ++n.labels.take k)) (Js KJ) wr) (fun i _ _=>ln - (intOf i).toNat)
   case atStart=>exact ⟨0,_,Nat.zero_le _,rfl,rfl,by rw [List.take_zero,List.append_nil];exact d.out⟩
   case round =>
    clear d
    obtain ⟨k,v1,hk,rfl,rfl,h⟩:=hrel
    have d:=Za h
    have s:=Za (Below.on A1.out h.b)
    have c0:=(r.out.below h.b r.out.lt).cell 0 rfl
    have d1:=(HD.out wr s.out).1
    clear h
    by_cases hlk:k<ln
    ·have b5:(k:Int)<ln:=by omega
     obtain ⟨x,t⟩:∃ x,n.labels[k]?=some x:=⟨_,List.getElem?_eq_getElem (by have:=C6.out;omega)⟩
     obtain ⟨a0,U3,e0,_,_,G6⟩:=y8.out
     obtain ⟨rfl,rfl⟩:la=a0/\lc=U3:=by injection e0 with a b c;exact ⟨a,c⟩
     clear e0
     obtain ⟨bo,oo,rfl,O2,I6⟩:=G6.resolve_left (by intro e;rw [e] at t;simp at t)
     have cx:wr.cell? ⟨bo,oo+k,none⟩=some (.string x):=by
      have:=((s.out.mono hB).cell (p:=⟨bo,oo+k*1+0,none⟩) O2).trans (I6 k _ t 0 _ rfl)
      rwa [Nat.mul_one,Nat.add_zero] at this
     have q4:Hid (Js (LJ++n.labels.take (k+1))=Zet x (Js (LJ++n.labels.take k))):=by
      show _=_
      rw [List.take_add_one,t,<- List.append_assoc]
      exact Zjd _ _
     have p7:Hid (Calls Tryz.prog 48 #[v1,.string x] wr fun e w'=>∃ v',e=.returned v'/\Zal 1 Zap w'.heap.size w' v' (Zet x (Js (LJ++n.labels.take k)))/\Below wr.heap.size wr w') :=
      Zhu _ x v1 _ wr (Nat.le_refl _) d.out.s1 d.out.z1 (Nat.le_trans (Zep _) (B4.out k))
     clear t G6 I6
     go_wp2_with (go_at_call 48;refine p7.out.mono ?_;rintro e w8 ⟨v',rfl,h4,c5⟩;have u2:=Za (d.out.put1 h4 c5);clear h4 c5;try dsimp only)
     go_roundw
     case rel=>exact ⟨k+1,_,by omega,by go_num,rfl,by rw [q4.out];exact u2.out⟩
     case measure=>simp [intOf];omega
    ·have b5:¬ (k:Int)<ln:=by omega
     have HQ:Hid (Js (LJ++n.labels.take k)=Js (LJ++n.labels)):=by show _=_;rw [List.take_of_length_le (by have:=C6.out;omega)]
     rw [HQ.out] at d
     go_wp2_with fail
     clear c0 d1
     go_loopw [9,6] (fun i a wr=>∃ (k:Nat) (v2:Value),k<=pn/\i=.int .i64 k/\v2=a/\TxI W3 v1 v2 (Js (LJ++n.labels)) (Js (KJ++(n.props.map Prod.fst).take k)) wr) (fun i _ _=>pn - (intOf i).toNat)
     case atStart=>exact ⟨0,_,Nat.zero_le _,rfl,rfl,by rw [List.take_zero,List.append_nil];exact d.out⟩
     case round =>
      clear d s
      obtain ⟨k,v2,hk,rfl,rfl,h⟩:=hrel
      have d:=Za h
      have s:=Za (Below.on A1.out h.b)
      have c0:=(r.out.below h.b r.out.lt).cell 0 rfl
      have d2:=(HD.out wr s.out).2
      clear h
      by_cases hlk:k<pn
      ·have b5:(k:Int)<pn:=by omega
       obtain ⟨q,hq⟩:∃ q,n.props[k]?=some q:=⟨_,List.getElem?_eq_getElem (by have:=o.out.1;have:=o.out.2.2;omega)⟩
       obtain ⟨⟨zk,zv⟩,hz⟩:∃ z,zs[k]?=some z:=⟨_,List.getElem?_eq_getElem (by have:=o.out.2.2;omega)⟩
       have s7:=(o.out.2.1 k q _ hq hz).1
       simp only at s7
       obtain ⟨bp,op,rfl,S1,H0⟩:=R5.out.resolve_left (by intro e;rw [e] at hz;simp at hz)
       have p0:=((s.out.mono hB).cell (p:=⟨bp,op+k*7+0,none⟩) S1).trans (H0 k _ hz 0 _ rfl)
       simp only [Nat.add_zero] at p0
       have q4:Hid (Js (KJ++(n.props.map Prod.fst).take (k+1))=Zet zk (Js (KJ++(n.props.map Prod.fst).take k))):=by
        show _=_
        rw [List.take_add_one,List.getElem?_map,hq,<- List.append_assoc,s7]
        exact Zjd _ _
       have p7:Hid (Calls Tryz.prog 48 #[v2,.string zk] wr fun e w'=>∃ v',e=.returned v'/\Zal 1 Zap w'.heap.size w' v' (Zet zk (Js (KJ++(n.props.map Prod.fst).take k)))/\Below wr.heap.size wr w') :=
        Zhu _ zk v2 _ wr (Nat.le_refl _) d.out.s2 d.out.z2 (Nat.le_trans (Zep _) (G3.out k))
       clear hq hz s7 H0
       go_wp2_with (go_at_call 48;refine p7.out.mono ?_;rintro e w8 ⟨v',rfl,h4,c5⟩;have u2:=Za (d.out.put2 h4 c5);clear h4 c5;try dsimp only)
       go_roundw
       case rel=>exact ⟨k+1,_,by omega,by go_num,rfl,by rw [q4.out];exact u2.out⟩
       case measure=>simp [intOf];omega
      ·have b5:¬ (k:Int)<pn:=by omega
       have HQ:Hid (Js (KJ++(n.props.map Prod.fst).take k)=Js (KJ++n.props.map Prod.fst)):=by show _=_;rw [List.take_of_length_le (by rw [List.length_map];have:=o.out.1;have:=o.out.2.2;omega)]
       rw [HQ.out] at d
       go_wp2_with fail
       go_roundw
       case rel=>exact ⟨j+1,_,_,by omega,by go_num,rfl,rfl,by rw [L9.out,L8.out];exact d.out⟩
       case measure=>simp [intOf];omega
  ·have z4:¬ (j:Int)<m:=by omega
   have HQ:Hid (g.nodes.take j=g.nodes):=List.take_of_length_le (by have:=HM.out.1;omega)
   rw [HQ.out] at d
   clear h
   go_wp2_with fail
   exact HK.out _ _ _ _ _ _ _ _ _ _ _ _ _ _ _ _ _ _ _ _ _ _ _ _ _ _ _ _ _ _ _ _ _ _ _ _ _ _ _ _ _ _ _ _ _ _ _ _ _ _ _ _ _ _ _ _ _ _ _ _ _ _ _ _ _ _ _ _ _ _ _ _ _ _ _ _ _ _ _ _ _ _ _ _ _ _ _ _ _ _ _ _ _ _ _ _ _ _ _ _ _ _ _ _ _ _ _ _ _ _ _ _ _ _ _ _ _ _ _ _ _ _ _ _ _ _ _ _ _ _ _ _ _ _ _ _ _ _ _ _ _ _ _ _ _ _ _ _ _ _ _ _ _ _ _ _ _ _ _ _ _ _ _ _ _ _ _ _ _ _ _ _ _ _ _ _ _ _ _ _ _ _ _ _ _ _ _ _ _ _ _ _ _ _ _ _ _ _ _ _ _ _ _ _ _ _ _ _ _ _ _ _ _ _ _ _ _ _ _ _ _ _ d.out
end Go.Proofs.YthfilnflgahcjaaGreatDoor

