import Derived.Test.YteddjlbfbpecjaaGreatDoorJoin22
namespace Go.Proofs.YteddjlbfbpecjaaGreatDoor
set_option linter.all false
section
open Go.RowKit Go.WideShapes Go.Shelf
mutual
def Zo4  : Zi->Int
 | .mk k b n s ks ts=>1+cntL ts
def cntL  : List Zi->Int
 | []=>0
 | t::ts=>Zo4 t+cntL ts
end
mutual
def Zlc  : Zi->Int
 | .mk k b n s ks ts=>s.size+Zx ks+bytL ts
def bytL  : List Zi->Int
 | []=>0
 | t::ts=>Zlc t+bytL ts
end
mutual
def Zm4  : Zi->Int
 | .mk k b n s ks ts=>max (ts.length:Int) (lngL ts)
def lngL  : List Zi->Int
 | []=>0
 | t::ts=>max (Zm4 t) (lngL ts)
end
mutual
def Zm5  : Zi->Int
 | .mk k b n s ks ts=>hgtL ts+1
def hgtL  : List Zi->Int
 | []=>0
 | t::ts=>max (Zm5 t) (hgtL ts)
end
mutual
theorem Zh3  : ∀ (T:Zi),(1<=Zo4 T/\Zo4 T<=T.total)/\(0<=Zlc T/\Zlc T<=T.total)/\(0<=Zm4 T/\Zm4 T<=T.total)/\(1<=Zm5 T/\Zm5 T<=T.total)
 | .mk k b n s ks ts=>by
  have h:=sizeL_le ts
  have hk:=Jz ks
  simp only [Zo4,Zlc,Zm4,Zm5,Zi.total]
  omega
theorem sizeL_le  : ∀ (l:List Zi),(0<=cntL l/\cntL l<=Zi.totalL l)/\(0<=bytL l/\bytL l<=Zi.totalL l)/\(0<=lngL l/\lngL l<=Zi.totalL l)/\(0<=hgtL l/\hgtL l<=Zi.totalL l)/\(l.length:Int)<=Zi.totalL l
 | []=>by simp [cntL,bytL,lngL,hgtL,Zi.totalL]
 | t::ts=>by
  have h:=Zh3 t
  have g:=sizeL_le ts
  simp only [cntL,bytL,lngL,hgtL,Zi.totalL,List.length_cons]
  omega
end
theorem Zh4  : ∀ (a b:List Zi),cntL (a++b)=cntL a+cntL b
 | [],b=>by simp [cntL]
 | t::a,b=>by simp only [List.cons_append,cntL,Zh4 a b];omega
theorem Zh5  : ∀ (a b:List Zi),bytL (a++b)=bytL a+bytL b
 | [],b=>by simp [bytL]
 | t::a,b=>by simp only [List.cons_append,bytL,Zh5 a b];omega
theorem Zh6  : ∀ (a b:List Zi),lngL (a++b)=max (lngL a) (lngL b)
 | [],b=>by have:=(sizeL_le b).2.2.1.1;simp only [List.nil_append,lngL];omega
 | t::a,b=>by simp only [List.cons_append,lngL,Zh6 a b];omega
theorem Zh7  : ∀ (a b:List Zi),hgtL (a++b)=max (hgtL a) (hgtL b)
 | [],b=>by have:=(sizeL_le b).2.2.2.1.1;simp only [List.nil_append,hgtL];omega
 | t::a,b=>by simp only [List.cons_append,hgtL,Zh7 a b];omega
theorem Zfy  : ∀ (a b:List Zi),Zi.totalL (a++b)=Zi.totalL a+Zi.totalL b
 | [],b=>by simp [Zi.totalL]
 | t::a,b=>by simp only [List.cons_append,Zi.totalL,Zfy a b];omega
theorem Zdx (l:List Zi):0<=Zi.totalL l:=by have:=(sizeL_le l).1;omega
theorem Zh8 (ts:List Zi) (p:Nat):Zi.totalL (ts.take p)<=Zi.totalL ts:=by
 have h:=Zfy (ts.take p) (ts.drop p)
 rw [List.take_append_drop] at h
 have:=Zdx (ts.drop p)
 omega
def Jk2 (s0:Int) (ts:List Zi) (p:Nat) (a b c d:Value):Prop :=
 a=.int .i64 (1+cntL (ts.take p))/\b=.int .i64 (hgtL (ts.take p))/\c=.int .i64 (s0+bytL (ts.take p))/\d=.int .i64 (max (ts.length:Int) (lngL (ts.take p)))
theorem Zld {fn:Func} {t u v x:Tmp} (h:fn.results=#[.tmp t,.tmp u,.tmp v,.tmp x]) (tmps:Array Value) (P:Program) (w:World) :
  (results fn tmps).run P w=.ok (.tuple #[tmps.getD t undef,tmps.getD u undef,tmps.getD v undef,tmps.getD x undef]) w:=by
 simp [results,h]
set_option maxRecDepth 100000 in
set_option maxHeartbeats 4000000 in
theorem Zh9  : ∀ (T:Zi) (B:Nat) (v:Value) (w:World),B<=w.heap.size->Zaw B w v T->T.total<=2000000 ->
  Calls Tryz.prog 69 #[v] w fun e w'=>e=.returned (.tuple #[.int .i64 (Zo4 T),.int .i64 (Zm5 T),.int .i64 (Zlc T),.int .i64 (Zm4 T)])/\Below w.heap.size w w':=by
 refine Zi.ind ?_
 intro k x n s ks ts ih B v w hB hv z
 have c6:=Zh3 (.mk k x n s ks ts)
 have M:=sizeL_le ts
 have a6:=Jz ks
 simp only [Zaw] at hv
 obtain ⟨ka,kc,la,lc,rfl,⟨c7,d5,b9,d2,b3⟩,hk,ht⟩:=hv
 unfold maxLen at c7 b9 b3
 simp only [Zi.total] at z
 obtain ⟨F,Q⟩:∃ F,w.alloc (.cells #[.int .i64 k,.bool x,.int .i64 n,.string s,.slice ka ks.length kc,.slice la ts.length lc] 60)=F:=⟨_,rfl⟩
 have HX:Hid (∀ W,Below F.heap.size F W->Below w.heap.size w W/\(W.cell? ⟨w.heap.size,3,none⟩=some (.string s)/\W.cell? ⟨w.heap.size,4,none⟩=some (.slice ka ks.length kc)/\W.cell? ⟨w.heap.size,5,none⟩=some (.slice la ts.length lc))):=fun W hb=>by
  rw [<- Q] at hb
  obtain ⟨h1,h2⟩:=Zip hb
  exact ⟨h1,h2 3 _ rfl,h2 4 _ rfl,h2 5 _ rfl⟩
 have I:Hid (Zo4 (.mk k x n s ks ts)=1+cntL ts/\Zm5 (.mk k x n s ks ts)=hgtL ts+1/\Zlc (.mk k x n s ks ts)=s.size+Zx ks+bytL ts/\Zm4 (.mk k x n s ks ts)=max (ts.length:Int) (lngL ts)):=by
  refine ⟨?_,?_,?_,?_⟩
  ·rw [Zo4]
  ·rw [Zm5]
  ·rw [Zlc]
  ·rw [Zm4]
 have a3:=Zb Q
 have b0:=Zb ih
 have V:=Zb hk
 have b6:=Zb ht
 have f:=Zb z
 have d6:=Zb M
 have G:=Zb a6
 have c8:(s.size:Int)<=2000000:=by omega
 have c9:(ts.length:Int)<=2000000:=by omega
 have d0:(ks.length:Int)<=2000000:=by have:=Zdx ts;omega
 generalize Zo4 (.mk k x n s ks ts)=r1 at *
 generalize Zm5 (.mk k x n s ks ts)=r2 at *
 generalize Zlc (.mk k x n s ks ts)=r3 at *
 generalize Zm4 (.mk k x n s ks ts)=r4 at *
 clear ih hk ht Q c6 M a6 z
 obtain ⟨_,m,q,o⟩:=HX.out F (Below.refl _ _)
 go_enter Tryz.func69,Tryz.ntmps69
 go_upto_region 1 with fail
 rw [a3.out]
 go_quiet (fail)
 go_wp2_with fail
 clear m q o a3
 go_loopw [10,8] (fun i u wr=>∃ j:Nat,j<=ks.length/\i=.int .i64 j/\u=.int .i64 ((s.size:Int)+Zx (ks.take j))/\Below F.heap.size F wr) (fun i _ _=>ks.length - (intOf i).toNat)
 case atStart=>exact ⟨0,Nat.zero_le _,rfl,by simp [Zx],below_drewN (Below.refl _ _) _⟩
 case round =>
  obtain ⟨j,hj,rfl,rfl,N⟩:=hrel
  obtain ⟨a7,q3,q4,q5⟩:=HX.out wr N
  have a0:=Zb N
  have b1:=Zb a7
  clear N a7 q3 q5
  have a2:=Zd0 ks j
  have R:=Jz (ks.take j)
  by_cases hja:j<ks.length
  ·obtain ⟨bk,off,rfl,d4,H⟩:=(V.out.below (b1.out.mono hB)).resolve_left (by intro e;subst e;simp at hja)
   have hc:=(H j hja).1
   have a5:=Zb (Zf3 ks j hja)
   have a9:=Zd0 ks (j+1)
   clear H
   generalize ks.getD j ⟨#[]⟩=y at *
   have d3:(s.size:Int)+Zx (ks.take j)+y.size<=2000000:=by have:=f.out;have:=a5.out;have:=Zdx ts;omega
   have d7:0<=(s.size:Int)+Zx (ks.take j):=by omega
   clear a2 R a9
   generalize Zx (ks.take j)=kb at *
   go_wp2_with fail
   go_roundw
   case rel=>exact ⟨j+1,by omega,by go_num,by rw [a5.out,<- Int.add_assoc],a0.out⟩
   case measure=>simp [intOf];omega
  ·have a4:Hid (Zx (ks.take j)=Zx ks):=by show _=_;rw [List.take_of_length_le (by omega)]
   clear a2 R
   rw [a4.out]
   clear a4 V
   go_wp2_with fail
   clear q4
   go_loopw [11,6,7,8,9] (fun i a b c d wr=>∃ p:Nat,p<=ts.length/\i=.int .i64 p/\Jk2 ((s.size:Int)+Zx ks) ts p a b c d/\Below F.heap.size F wr) (fun i _ _ _ _ _=>ts.length - (intOf i).toNat)
   case atStart=>exact ⟨0,Nat.zero_le _,rfl,⟨by simp [cntL],by simp [hgtL],by simp [bytL],by simp [lngL]⟩,a0.out⟩
   case round =>
    obtain ⟨p,hp,rfl,⟨rfl,rfl,rfl,rfl⟩,C⟩:=hrel
    obtain ⟨K,q3,q4,q5⟩:=HX.out _ C
    have L:=Zb C
    have A:=Zb K
    clear C K q3 q4
    have O:=sizeL_le (ts.take p)
    have S:=Zh8 ts p
    by_cases hlt:p<ts.length
    ·obtain ⟨bl,off,rfl,b8,a1⟩:=b6.out.resolve_left (by intro e;subst e;simp at hlt)
     obtain ⟨⟨E,r,D,m,q,o⟩,X⟩:∃ t,ts[p]?=some t:=⟨_,List.getElem?_eq_getElem hlt⟩
     obtain ⟨ja,jc,jl,jd,⟨c0,c1,c2,c3,c4,c5⟩,a8⟩:=(a1.below (A.out.mono hB) b8).cells X
     have hm:=Zgw (List.mem_of_getElem? X)
     have HC:=Zb (b0.out _ (List.mem_of_getElem? X) B _ wr (Nat.le_trans hB A.out.size) a8 (by have:=f.out;have:=G.out;omega))
     have b7:=Zh3 (.mk E r D m q o)
     have b2:=sizeL_le (ts.take (p+1))
     have b4:=Zh8 ts (p+1)
     have U:Hid (cntL (ts.take (p+1))=cntL (ts.take p)+Zo4 (.mk E r D m q o)/\hgtL (ts.take (p+1))=max (hgtL (ts.take p)) (Zm5 (.mk E r D m q o))/\bytL (ts.take (p+1))=bytL (ts.take p)+Zlc (.mk E r D m q o)/\lngL (ts.take (p+1))=max (lngL (ts.take p)) (Zm4 (.mk E r D m q o))):=by
      rw [Zit X]
      have g:=Zh3 (.mk E r D m q o)
      refine ⟨?_,?_,?_,?_⟩
      ·rw [Zh4];simp [cntL]
      ·rw [Zh7];simp only [hgtL];omega
      ·rw [Zh5];simp [bytL]
      ·rw [Zh6];simp only [lngL];omega
     clear a1 a8 X
     generalize Zo4 (.mk E r D m q o)=t1 at *
     generalize Zm5 (.mk E r D m q o)=t2 at *
     generalize Zlc (.mk E r D m q o)=t3 at *
     generalize Zm4 (.mk E r D m q o)=t4 at *
     generalize (Zi.mk E r D m q o).total=t5 at *
     have hA:cntL (ts.take p)+t1<=2000000/\bytL (ts.take p)+t3+(s.size:Int)+Zx ks<=2000000:=by have:=f.out;have:=G.out;have:=U.out;omega
     have d1:=G.out
     have hN:0<=cntL (ts.take p)/\0<=bytL (ts.take p)/\0<=t1/\0<=t3:=by omega
     clear O S b7 b2 b4 hm
     generalize cntL (ts.take p)=m1 at *
     generalize hgtL (ts.take p)=m2 at *
     generalize bytL (ts.take p)=m3 at *
     generalize lngL (ts.take p)=m4 at *
     generalize Zx ks=kb at *
     go_wp2_with fail
     refine HC.out.mono ?_;rintro e w' ⟨rfl,Y⟩
     have b5:=Zb (L.out.trans (Y.mono L.out.size))
     clear Y c0 c1 c2 c3 c4 c5 q5 HC
     go_wp2_with fail
     go_roundw
     case rel =>
      refine ⟨p+1,by omega,by go_num,⟨?_,?_,?_,?_⟩,b5.out⟩
      ·rw [U.out.1,<- Int.add_assoc]
      ·rw [U.out.2.1]
      ·rw [U.out.2.2.1,<- Int.add_assoc]
      ·rw [U.out.2.2.2]
     case measure=>simp [intOf];omega
    ·have HT:Hid (ts.take p=ts):=List.take_of_length_le (by omega)
     rw [HT.out] at O |-
     have hh:0<=hgtL ts/\hgtL ts<=2000000:=by have:=f.out;have:=G.out;omega
     clear O S HT
     obtain ⟨e1,e2,e3,e4⟩:=I.out
     have HE:=Zb (And.intro e1 (And.intro e2 (And.intro e3 e4)))
     clear e1 e2 e3 e4 I
     go_wp2_with fail
     (try simp only [Exit.inBlock,Exit.then]);refine bodyPost_ret (Zld rfl _ _ _) rfl ?_
     refine ⟨?_,A.out⟩
     rw [HE.out.1,HE.out.2.1,HE.out.2.2.1,HE.out.2.2.2]
     rfl
end
section
open Go.RowKit Go.WideShapes Go.Shelf
theorem Zs7  : (⟨#[]⟩:ByteArray).toList.isEmpty=true:=by
 rw [show (⟨#[]⟩:ByteArray)=ByteArray.empty from rfl];simp
theorem Zv3 (l:List (Int × Zi)):∀ a:Int,a<=1048576->(Zcx a l=true↔((∃ x ∈ l,64<x.1)\/(∃ x ∈ l,65536<x.2.kids.length)\/1048576<a+Jb l)):=by
 induction l with
 | nil=>intro a h;simp [Zcx,Jb];omega
 | cons x r ih =>
  intro a h
  obtain ⟨d,t⟩:=x
  have p:Jb ((d,t)::r)=t.bytes+Jb r:=by simp [Jb]
  have P:=Zdg r
  rw [p]
  simp only [Zcx,Bool.or_eq_true,decide_eq_true_eq,List.mem_cons,exists_eq_or_imp]
  by_cases g:1048576<a+t.bytes
  ·have:1048576<a+(t.bytes+Jb r):=by omega
   simp [g,this]
  ·rw [ih (a+t.bytes) (by omega)]
   have e:a+t.bytes+Jb r=a+(t.bytes+Jb r):=by omega
   rw [e]
   simp only [g,or_false]
   constructor
   ·rintro ((h | h) | h | h | h)
    ·exact .inl (.inl h)
    ·exact .inr (.inl (.inl h))
    ·exact .inl (.inr h)
    ·exact .inr (.inl (.inr h))
    ·exact .inr (.inr h)
   ·rintro ((h | h) | (h | h) | h)
    ·exact .inl (.inl h)
    ·exact .inr (.inl h)
    ·exact .inl (.inr h)
    ·exact .inr (.inr (.inl h))
    ·exact .inr (.inr (.inr h))
mutual
theorem Znk  : ∀ (T:Zi) (d:Int),Jb (T.pre d)=Zlc T
 | .mk k b n s ks ts,d=>by
  have h:=preL_bytes ts (d+1)
  have e:Jb ((d,Zi.mk k b n s ks ts)::Zi.preL (d+1) ts)=Jb [(d,Zi.mk k b n s ks ts)]+Jb (Zi.preL (d+1) ts):=Zbl [_] _
  rw [Zi.pre,e,Zfj,h,Zlc]
theorem preL_bytes  : ∀ (l:List Zi) (d:Int),Jb (Zi.preL d l)=bytL l
 | [],d=>by simp [Zi.preL,Jb,bytL]
 | t::ts,d=>by rw [Zi.preL,Zbl,Znk t d,preL_bytes ts d,bytL]
end
mutual
theorem Zq6  : ∀ (T:Zi) (d L:Int),(∃ x ∈ T.pre d,L<x.1)↔L<d - 1+Zm5 T
 | .mk k b n s ks ts,d,L=>by
  have h:=preL_deep ts (d+1) L
  rw [Zi.pre,Zm5]
  simp only [List.mem_cons,exists_eq_or_imp]
  have e:d+1 - 1=d:=by omega
  rw [e] at h
  have e2:d - 1+(hgtL ts+1)=d+hgtL ts:=by omega
  rw [e2,<- h]
  exact Or.comm
theorem preL_deep  : ∀ (l:List Zi) (d L:Int),((∃ x ∈ Zi.preL d l,L<x.1)\/L<d - 1)↔L<d - 1+hgtL l
 | [],d,L=>by simp [Zi.preL,hgtL]
 | t::ts,d,L=>by
  have h1:=Zq6 t d L
  have h2:=preL_deep ts d L
  have h3:=(Zh3 t).2.2.2.1
  have D:=(sizeL_le ts).2.2.2.1.1
  rw [Zi.preL,hgtL]
  simp only [List.mem_append,or_and_right,exists_or,or_assoc]
  rw [h1,h2]
  omega
end
mutual
theorem Zq7  : ∀ (T:Zi) (d:Int),(∃ x ∈ T.pre d,65536<x.2.kids.length)↔65536<Zm4 T
 | .mk k b n s ks ts,d=>by
  have h:=preL_long ts (d+1)
  rw [Zi.pre,Zm4]
  simp only [List.mem_cons,exists_eq_or_imp]
  rw [h]
  show (65536<ts.length\/_)↔_
  omega
theorem preL_long  : ∀ (l:List Zi) (d:Int),(∃ x ∈ Zi.preL d l,65536<x.2.kids.length)↔65536<lngL l
 | [],d=>by simp [Zi.preL,lngL]
 | t::ts,d=>by
  have h1:=Zq7 t d
  have h2:=preL_long ts d
  rw [Zi.preL,lngL]
  simp only [List.mem_append,or_and_right,exists_or]
  rw [h1,h2]
  omega
end
theorem Zpg {ks:List ByteArray} (h:ks.length=0):Zbz ks=true:=Zfq fun i M=>by omega
theorem Zph (k:Int) (b:Bool) (n:Int) (s:ByteArray) (ks:List ByteArray) (ts:List Zi):Zw (.mk k b n s ks ts)=(!badB k b n s ks.length ts.length&&Zbz ks):=by
 have N:=@Zpg ks
 simp only [Zw,badB,rbareB,Zav]
 generalize Zbz ks=rz at *
 generalize Lib.validD s.data.toList=vd
 have K:(⟨#[]⟩:ByteArray).toList.isEmpty=true:=Zs7
 rw [K]
 generalize s.toList.isEmpty=se
 generalize ks.length=kl at *
 generalize ts.length=ll
 by_cases h0:k=0
 ·subst h0;cases b<;>cases se<;>cases vd<;>by_cases g1:n=0<;>by_cases g2:kl=0<;>by_cases g3:ll=0<;>simp_all
 by_cases h1:k=1
 ·subst h1;cases b<;>cases se<;>cases vd<;>by_cases g1:n=0<;>by_cases g2:kl=0<;>by_cases g3:ll=0<;>simp_all
 by_cases h2:k=2
 ·subst h2;cases b<;>cases se<;>cases vd<;>by_cases g2:kl=0<;>by_cases g3:ll=0<;>simp_all
 by_cases h6:k=6
 ·subst h6
  by_cases g1:n<0
  ·have e:(min n 0==0)=false:=by rw [beq_eq_false_iff_ne];omega
   cases b<;>cases se<;>cases vd<;>by_cases g2:kl=0<;>by_cases g3:ll=0<;>simp_all
  ·have e:(min n 0==0)=true:=by rw [beq_iff_eq];omega
   cases b<;>cases se<;>cases vd<;>by_cases g2:kl=0<;>by_cases g3:ll=0<;>simp_all
 by_cases h7:k=7
 ·subst h7
  by_cases g1:n<0
  ·have e:(min n 0==0)=false:=by rw [beq_eq_false_iff_ne];omega
   cases b<;>cases se<;>cases vd<;>by_cases g2:kl=0<;>by_cases g3:ll=0<;>simp_all
  ·have e:(min n 0==0)=true:=by rw [beq_iff_eq];omega
   cases b<;>cases se<;>cases vd<;>by_cases g2:kl=0<;>by_cases g3:ll=0<;>simp_all
 by_cases h3:k=3
 ·subst h3;cases b<;>cases se<;>cases vd<;>by_cases g1:n=0<;>by_cases g2:kl=0<;>by_cases g3:ll=0<;>simp_all
 by_cases h5:k=5
 ·subst h5
  by_cases g2:kl=ll
  ·subst g2
   cases b<;>cases se<;>cases vd<;>cases rz<;>by_cases g1:n=0<;>simp_all
  ·have e:((kl:Int) != (ll:Int))=true:=by rw [bne_iff_ne];omega
   have H:(kl==ll)=false:=beq_eq_false_iff_ne.2 g2
   rw [e,H]
   clear e H
   cases b<;>cases se<;>cases vd<;>cases rz<;>by_cases g1:n=0<;>simp_all
 by_cases D:k=4
 ·subst D;cases b<;>cases se<;>cases vd<;>by_cases g1:n=0<;>by_cases g2:kl=0<;>simp_all
 have I:(decide (k<0)||decide (7<k))=true:=by
  rw [Bool.or_eq_true,decide_eq_true_eq,decide_eq_true_eq]
  omega
 rw [I]
 simp [h0,h1,h2,h3,D,h5,h6,h7]
mutual
theorem Zv4  : ∀ (T:Zi) (d:Int),(T.pre d).all (fun x=>Zw x.2)=Ziq T
 | .mk k b n s ks ts,d=>by
  rw [Zi.pre,Ziq,List.all_cons,may_preL ts (d+1),Zph,Bool.and_assoc]
theorem may_preL  : ∀ (l:List Zi) (d:Int),(Zi.preL d l).all (fun x=>Zw x.2)=mayL l
 | [],d=>rfl
 | t::ts,d=>by rw [Zi.preL,mayL,List.all_append,Zv4 t d,may_preL ts d]
end
theorem Zq8 (T:Zi):checkN T=if Ziq T=true then (if 64<Zm5 T\/1048576<Zlc T\/65536<Zm4 T then 3 else 0) else 110:=by
 unfold checkN
 rw [Zv4]
 have h:=Zv3 (T.pre 1) 0 (by omega)
 rw [Zq6,Zq7,Znk] at h
 have e:(Zcx 0 (T.pre 1)=true)=(64<Zm5 T\/1048576<Zlc T\/65536<Zm4 T):=propext (by rw [h];omega)
 simp only [e]
set_option maxRecDepth 100000 in
set_option maxHeartbeats 1000000 in
theorem Zs8 (T:Zi) (B:Nat) (v:Value) (w:World) (y:B<=w.heap.size) (C:Zaw B w v T) (E:Zln T) (o:T.total<=2000000) :
  Calls Tryz.prog 51 #[v] w fun e w'=>e=.returned (.int .i64 (checkN T))/\Below w.heap.size w w':=by
 have G:Hid (∀ W,Below w.heap.size w W->Calls Tryz.prog 110 #[v] W fun e w'=>e=.returned (.bool (Ziq T))/\Below W.heap.size W w'):=fun W p =>
  Jco T B v W (Nat.le_trans y p.size) (C.below (p.mono y)) E
 have F:Hid (∀ W,Below w.heap.size w W->Calls Tryz.prog 69 #[v] W fun e w'=>e=.returned (.tuple #[.int .i64 (Zo4 T),.int .i64 (Zm5 T),.int .i64 (Zlc T),.int .i64 (Zm4 T)])/\Below W.heap.size W w'):=fun W p =>
  Zh9 T B v W (Nat.le_trans y p.size) (C.below (p.mono y)) o
 have f:=Zb (Zq8 T)
 generalize Ziq T=m at *
 generalize Zo4 T=t1 at *
 generalize Zm5 T=t2 at *
 generalize Zlc T=t3 at *
 generalize Zm4 T=t4 at *
 obtain ⟨k,x,n,s,ks,ts⟩:=T
 simp only [Zaw] at C
 obtain ⟨ka,kc,la,lc,rfl,-⟩:=C
 have A:=Zb ((Below.refl w.heap.size w).alloc (Nat.le_refl _) (.cells #[.int .i64 k,.bool x,.int .i64 n,.string s,.slice ka ks.length kc,.slice la ts.length lc] 60))
 generalize checkN (.mk k x n s ks ts)=res at *
 clear y E o
 go_enter Tryz.func51,Tryz.ntmps51
 go_wp2_with fail
 refine (G.out _ A.out).mono ?_
 rintro e w1 ⟨rfl,h1⟩
 obtain ⟨z,q⟩:=Zip h1
 have c0:=q 0 _ rfl
 have c1:=q 1 _ rfl
 have c2:=q 2 _ rfl
 have c3:=q 3 _ rfl
 have c4:=q 4 _ rfl
 have c5:=q 5 _ rfl
 have j:=Zb z
 clear q h1 z A G
 cases m
 ·go_wp2_with fail
  go_ret
  exact ⟨by rw [f.out];rfl,j.out⟩
 ·go_wp2_with fail
  refine (F.out _ j.out).mono ?_
  rintro e O ⟨rfl,h2⟩
  have c:=Zb (Za j.out h2)
  clear h2 c0 c1 c2 c3 c4 c5 F j
  by_cases g1:64<t2
  ·have u:Hid (res=3):=f.out.trans (by simp [g1])
   have d1:decide (64<t2)=true:=decide_eq_true g1
   clear f g1
   go_wp2_with fail
   go_ret
   exact ⟨by rw [u.out];rfl,c.out⟩
  ·have d1:decide (64<t2)=false:=decide_eq_false g1
   by_cases g2:1048576<t3
   ·have u:Hid (res=3):=f.out.trans (by simp [g2])
    have d2:decide (1048576<t3)=true:=decide_eq_true g2
    clear f g1 g2
    go_wp2_with fail
    go_ret
    exact ⟨by rw [u.out];rfl,c.out⟩
   ·have d2:decide (1048576<t3)=false:=decide_eq_false g2
    by_cases g3:65536<t4
    ·have u:Hid (res=3):=f.out.trans (by simp [g3])
     have d3:decide (65536<t4)=true:=decide_eq_true g3
     clear f g1 g2 g3
     go_wp2_with fail
     go_ret
     exact ⟨by rw [u.out];rfl,c.out⟩
    ·have u:Hid (res=0):=f.out.trans (by simp [g1,g2,g3])
     have d3:decide (65536<t4)=false:=decide_eq_false g3
     clear f g1 g2 g3
     go_wp2_with fail
     go_ret
     exact ⟨by rw [u.out];rfl,c.out⟩
end
section
open Go.RowKit Go.Shelf
attribute [local go_sem] Oper.semAt_some
set_option maxRecDepth 100000 in
set_option maxHeartbeats 2000000 in
theorem Zqd (T:Zi) (B:Nat) (v:Value) (w:World) (X:B<=w.heap.size) (S:Zaw B w v T):Calls Tryz.prog 149 #[v] w fun e w'=>e=.returned (.bool (Zen T))/\Below w.heap.size w w':=by
 obtain ⟨k,x,n,s,ks,ts⟩:=T
 simp only [Zaw] at S
 obtain ⟨ka,kc,la,lc,rfl,⟨a3,a1,a2,a0,O⟩,hk,Y⟩:=S
 unfold maxLen at O
 obtain ⟨h,m⟩:∃ h,w.alloc (.cells #[.int .i64 k,.bool x,.int .i64 n,.string s,.slice ka ks.length kc,.slice la ts.length lc] 60)=h:=⟨_,rfl⟩
 have K:Below w.heap.size w h:=m▸(Below.refl _ _).alloc (Nat.le_refl _) _
 have u:h.heap[w.heap.size]?=some (.cells #[.int .i64 k,.bool x,.int .i64 n,.string s,.slice ka ks.length kc,.slice la ts.length lc] 60 (0,0)):=m▸World.alloc_heap_new _ _
 have C:w.heap.size<h.heap.size:=(Array.getElem?_eq_some_iff.1 u).1
 have HX:Hid (∀ W,Below h.heap.size h W->Below w.heap.size w W/\W.cell? ⟨w.heap.size,0,none⟩=some (.int .i64 k)/\W.cell? ⟨w.heap.size,5,none⟩=some (.slice la ts.length lc)):=fun W U=>by
  have e:=(U.block _ C).trans u
  exact ⟨K.trans (U.mono (by omega)),by unfold World.cell?;simp only [e];rfl,by unfold World.cell?;simp only [e];rfl⟩
 have V:Hid (ts=[]\/∃ D off,la=some ⟨D,off,none⟩/\D<B/\KidsLie B w D off ts):=Y
 have M:Hid (Zen (.mk k x n s ks ts)=(Zxd ts&&(if k=4 then (if ts=[] then true else Zar (Zb2 ts)) else Zar k))):=rfl
 have E:=Zb m
 clear m u Y hk
 go_enter Tryz.func149,Tryz.ntmps149
 go_wp2_with fail
 rw [E.out]
 clear E
 go_loopw [3] (fun i wr=>∃ j:Nat,j<=ts.length/\i=.int .i64 j/\Below h.heap.size h wr/\(ts.take j).all (fun t=>t.kind==Zb2 ts)=true) (fun i _=>ts.length - (intOf i).toNat)
 case atStart=>exact ⟨0,Nat.zero_le _,rfl,Below.refl _ _,rfl⟩
 case round =>
  obtain ⟨j,hj,rfl,o,A⟩:=hrel
  have P:=Zb o
  have p:=Zb A
  obtain ⟨G,q0,q5⟩:=HX.out wr o
  have b:=Zb G
  clear o G A
  by_cases hlt:j<ts.length
  ·obtain ⟨D,off,rfl,r,d⟩:=V.out.resolve_left (by intro e;subst e;simp at hlt)
   obtain ⟨⟨R,p1,p2,p3,p4,p5⟩,N⟩:∃ t,ts[j]?=some t:=⟨_,List.getElem?_eq_getElem hlt⟩
   have y:=d.below (b.out.mono X) r
   obtain ⟨_,_,_,_,⟨c0,_⟩,_⟩:=y.cells N
   have d0:=y.first (by omega)
   have F:=Zb N
   obtain ⟨I,a⟩:∃ f,Zb2 ts=f:=⟨_,rfl⟩
   rw [a] at d0
   have l:=Zb a
   have g:(0:Int)<ts.length:=by omega
   clear d y N a
   go_wp2_with fail
   go_quiet (fail)
   by_cases e:R=I
   ·have e':(R != I)=false:=by simp [e]
    go_wp2_with fail
    go_roundw
    case rel=>exact ⟨j+1,by omega,by go_num,below_drewN P.out _,Zgd p.out F.out (by rw [l.out];simp [Zi.kind,e])⟩
    case measure=>simp [intOf];omega
   ·have e':(R != I)=true:=by simp [e]
    have Q:Hid (Zen (.mk k x n s ks ts)=false):=by
     show _=_
     rw [M.out]
     have:Zxd ts=false:=Zjd F.out (by rw [l.out];simp [Zi.kind,e])
     rw [this];rfl
    go_wp2_with fail
    go_ret
    exact ⟨by rw [Q.out];rfl,below_drewN b.out _⟩
  ·have z:Hid (Zxd ts=true):=by
    have:=p.out
    rw [List.take_of_length_le (by omega)] at this
    exact this
   have q:Hid (Zen (.mk k x n s ks ts)=(if k=4 then (if ts=[] then true else Zar (Zb2 ts)) else Zar k)):=by
    show _=_;rw [M.out,z.out,Bool.true_and]
   clear p M z
   by_cases k4:k=4
   ·have L:(k==4)=true:=by simp [k4]
    by_cases g:0<ts.length
    ·have H:(0:Int)<ts.length:=by omega
     obtain ⟨D,off,rfl,r,d⟩:=V.out.resolve_left (by intro e;subst e;simp at g)
     have d0:=(d.below (b.out.mono X) r).first g
     have c:Hid (Zen (.mk k x n s ks ts)=Zar (Zb2 ts)):=by
      show _=_;rw [q.out,if_pos k4,if_neg (by intro e;subst e;simp at g)]
     obtain ⟨I,a⟩:∃ f,Zb2 ts=f:=⟨_,rfl⟩
     rw [a] at d0
     have l:=Zb a
     clear d a
     go_wp2_with fail
     all_goals
      go_ret
      refine ⟨?_,b.out⟩
      rw [c.out,l.out]
      simp_all [Zar]
    ·have H:¬ (0:Int)<ts.length:=by omega
     have c:Hid (Zen (.mk k x n s ks ts)=true):=by
      show _=_;rw [q.out,if_pos k4,if_pos (List.eq_nil_of_length_eq_zero (by omega))]
     clear k4
     go_wp2_with fail
     go_ret
     exact ⟨by rw [c.out];rfl,b.out⟩
   ·have L:(k==4)=false:=by simp [k4]
    have c:Hid (Zen (.mk k x n s ks ts)=Zar k):=by
     show _=_;rw [q.out,if_neg k4]
    go_wp2_with fail
    all_goals
     go_ret
     refine ⟨?_,b.out⟩
     rw [c.out]
     simp_all [Zar]
end
section
open Go.RowKit Go.Shelf
def Zcy (T:Zi):Bool:=decide (checkN T=0)&&Zen T
set_option maxRecDepth 100000 in
set_option maxHeartbeats 4000000 in
theorem Zl8 (T:Zi) (B:Nat) (v:Value) (w:World) (F:B<=w.heap.size) (H:Zaw B w v T) (P:Zln T) (g:T.total<=2000000):Calls Tryz.prog 103 #[v] w fun e w'=>e=.returned (.bool (Zcy T))/\Below w.heap.size w w':=by
 have O:=Zb H
 obtain ⟨D,q⟩:∃ c,checkN T=c:=⟨_,rfl⟩
 obtain ⟨I,p⟩:∃ c,Zen T=c:=⟨_,rfl⟩
 have i:Hid (∀ W,Below w.heap.size w W->Calls Tryz.prog 51 #[v] W fun e w'=>e=.returned (.int .i64 D)/\Below W.heap.size W w'):=fun W j=>by
  rw [<- q];exact Zs8 T B v W (Nat.le_trans F j.size) (O.out.below (j.mono F)) P g
 have A:Hid (∀ W,Below w.heap.size w W->Calls Tryz.prog 149 #[v] W fun e w'=>e=.returned (.bool I)/\Below W.heap.size W w'):=fun W j=>by
  rw [<- p];exact Zqd T B v W (Nat.le_trans F j.size) (O.out.below (j.mono F))
 have M:Hid (Zcy T=(decide (D=0)&&I)):=by
  show _=_
  unfold Zcy
  rw [q,p]
 obtain ⟨res,m⟩:∃ r,Zcy T=r:=⟨_,rfl⟩
 rw [m] at M |-
 clear q p P g O m
 obtain ⟨k,x,n,s,ks,ts⟩:=T
 simp only [Zaw] at H
 obtain ⟨ka,kc,la,lc,rfl,⟨V,S,U,R,G⟩,_,_⟩:=H
 unfold maxLen at G
 obtain ⟨l,f⟩:∃ l,w.alloc (.cells #[.int .i64 k,.bool x,.int .i64 n,.string s,.slice ka ks.length kc,.slice la ts.length lc] 60)=l:=⟨_,rfl⟩
 have z:Below w.heap.size w l:=f▸(Below.refl _ _).alloc (Nat.le_refl _) _
 have t:l.heap[w.heap.size]?=some (.cells #[.int .i64 k,.bool x,.int .i64 n,.string s,.slice ka ks.length kc,.slice la ts.length lc] 60 (0,0)):=f▸World.alloc_heap_new _ _
 have h:w.heap.size<l.heap.size:=(Array.getElem?_eq_some_iff.1 t).1
 have X:Hid (∀ W,Below l.heap.size l W->Below w.heap.size w W/\W.cell? ⟨w.heap.size,0,none⟩=some (.int .i64 k)/\W.cell? ⟨w.heap.size,1,none⟩=some (.bool x)/\W.cell? ⟨w.heap.size,2,none⟩=some (.int .i64 n)/\W.cell? ⟨w.heap.size,3,none⟩=some (.string s)/\W.cell? ⟨w.heap.size,4,none⟩=some (.slice ka ks.length kc)/\W.cell? ⟨w.heap.size,5,none⟩=some (.slice la ts.length lc)):=fun W j=>by
  have e:=(j.block _ h).trans t
  refine ⟨z.trans (j.mono (by omega)),?_,?_,?_,?_,?_,?_⟩<;>(unfold World.cell?;simp only [e];rfl)
 have u:=Zb (i.out l z)
 have C:=Zb f
 have HH:=Zb h
 clear f t i
 go_enter Tryz.func103,Tryz.ntmps103
 go_wp2_with fail
 rw [C.out]
 refine u.out.mono ?_
 rintro e Q ⟨rfl,E⟩
 obtain ⟨d,q0,q1,q2,Y,q4,q5⟩:=X.out Q E
 have b:=Zb d
 have L:=Zb (A.out Q d)
 clear E d C u
 by_cases hc:D=0
 ·have K:(D==0)=true:=by simp [hc]
  have o:Hid (res=I):=by
   show _=_
   rw [M.out,hc];rfl
  clear hc
  go_wp2_with fail
  refine L.out.mono ?_
  rintro e w3 ⟨rfl,y⟩
  have N:=Zb y
  clear y
  go_wp2_with fail
  go_ret
  exact ⟨by rw [o.out];rfl,b.out.trans (N.out.mono b.out.size)⟩
 ·have K:(D==0)=false:=by simp [hc]
  have o:Hid (res=false):=by
   show _=_
   rw [M.out,decide_eq_false hc];rfl
  clear hc
  go_wp2_with fail
  go_ret
  exact ⟨by rw [o.out];rfl,b.out⟩
end
