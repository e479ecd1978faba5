import Derived.Test.YteddjlbfbpecjaaGreatDoorJoin22
namespace Go.Proofs.YteddjlbfbpecjaaGreatDoor
set_option linter.all false
section
open Go.RowKit Go.WideShapes Go.Shelf
mutual
def Zo4  : Zi->Int
 | .mk k b n s ks ts=>1+cntL ts
def cntL  : List Zi->Int
 | []=>0
 | t::ts=>Zo4 t+cntL ts
end
mutual
def Zlc  : Zi->Int
 | .mk k b n s ks ts=>s.size+Zx ks+bytL ts
def bytL  : List Zi->Int
 | []=>0
 | t::ts=>Zlc t+bytL ts
end
mutual
def Zm4  : Zi->Int
 | .mk k b n s ks ts=>max (ts.length:Int) (lngL ts)
def lngL  : List Zi->Int
 | []=>0
 | t::ts=>max (Zm4 t) (lngL ts)
end
mutual
def Zm5  : Zi->Int
 | .mk k b n s ks ts=>hgtL ts+1
def hgtL  : List Zi->Int
 | []=>0
 | t::ts=>max (Zm5 t) (hgtL ts)
end
mutual
theorem Zh3  : ∀ (T:Zi),(1<=Zo4 T/\Zo4 T<=T.total)/\(0<=Zlc T/\Zlc T<=T.total)/\(0<=Zm4 T/\Zm4 T<=T.total)/\(1<=Zm5 T/\Zm5 T<=T.total)
 | .mk k b n s ks ts=>by
  have h:=sizeL_le ts
  have hk:=Jz ks
  simp only [Zo4,Zlc,Zm4,Zm5,Zi.total]
  omega
theorem sizeL_le  : ∀ (l:List Zi),(0<=cntL l/\cntL l<=Zi.totalL l)/\(0<=bytL l/\bytL l<=Zi.totalL l)/\(0<=lngL l/\lngL l<=Zi.totalL l)/\(0<=hgtL l/\hgtL l<=Zi.totalL l)/\(l.length:Int)<=Zi.totalL l
 | []=>by simp [cntL,bytL,lngL,hgtL,Zi.totalL]
 | t::ts=>by
  have h:=Zh3 t
  have g:=sizeL_le ts
  simp only [cntL,bytL,lngL,hgtL,Zi.totalL,List.length_cons]
  omega
end
theorem Zh4  : ∀ (a b:List Zi),cntL (a++b)=cntL a+cntL b
 | [],b=>by simp [cntL]
 | t::a,b=>by simp only [List.cons_append,cntL,Zh4 a b];omega
theorem Zh5  : ∀ (a b:List Zi),bytL (a++b)=bytL a+bytL b
 | [],b=>by simp [bytL]
 | t::a,b=>by simp only [List.cons_append,bytL,Zh5 a b];omega
theorem Zh6  : ∀ (a b:List Zi),lngL (a++b)=max (lngL a) (lngL b)
 | [],b=>by have:=(sizeL_le b).2.2.1.1;simp only [List.nil_append,lngL];omega
 | t::a,b=>by simp only [List.cons_append,lngL,Zh6 a b];omega
theorem Zh7  : ∀ (a b:List Zi),hgtL (a++b)=max (hgtL a) (hgtL b)
 | [],b=>by have:=(sizeL_le b).2.2.2.1.1;simp only [List.nil_append,hgtL];omega
 | t::a,b=>by simp only [List.cons_append,hgtL,Zh7 a b];omega
theorem Zfy  : ∀ (a b:List Zi),Zi.totalL (a++b)=Zi.totalL a+Zi.totalL b
 | [],b=>by simp [Zi.totalL]
 | t::a,b=>by simp only [List.cons_append,Zi.totalL,Zfy a b];omega
theorem Zdx (l:List Zi):0<=Zi.totalL l:=by have:=(sizeL_le l).1;omega
theorem Zh8 (ts:List Zi) (p:Nat):Zi.totalL (ts.take p)<=Zi.totalL ts:=by
 have h:=Zfy (ts.take p) (ts.drop p)
 rw [List.take_append_drop] at h
 have:=Zdx (ts.drop p)
 omega
def Jk2 (s0:Int) (ts:List Zi) (p:Nat) (a b c d:Value):Prop :=
 a=.int .i64 (1+cntL (ts.take p))/\b=.int .i64 (hgtL (ts.take p))/\c=.int .i64 (s0+bytL (ts.take p))/\d=.int .i64 (max (ts.length:Int) (lngL (ts.take p)))
theorem Zld {fn:Func} {t u v x:Tmp} (h:fn.results=#[.tmp t,.tmp u,.tmp v,.tmp x]) (tmps:Array Value) (P:Program) (w:World) :
  (results fn tmps).run P w=.ok (.tuple #[tmps.getD t undef,tmps.getD u undef,tmps.getD v undef,tmps.getD x undef]) w:=by
 simp [results,h]
set_option maxRecDepth 100000 in
set_option maxHeartbeats 4000000 in
theorem Zh9  : ∀ (T:Zi) (B:Nat) (v:Value) (w:World),B<=w.heap.size->Zaw B w v T->T.total<=2000000 ->
  Calls Tryz.prog 69 #[v] w fun e w'=>e=.returned (.tuple #[.int .i64 (Zo4 T),.int .i64 (Zm5 T),.int .i64 (Zlc T),.int .i64 (Zm4 T)])/\Below w.heap.size w w':=by
 refine Zi.ind ?_
 intro k x n s ks ts ih B v w hB hv E
 have b7:=Zh3 (.mk k x n s ks ts)
 have K:=sizeL_le ts
 have X:=Jz ks
 simp only [Zaw] at hv
 obtain ⟨ka,kc,la,lc,rfl,⟨b6,d1,b9,d3,c6⟩,hk,ht⟩:=hv
 unfold maxLen at b6 b9 c6
 simp only [Zi.total] at E
 obtain ⟨G,O⟩:∃ G,w.alloc (.cells #[.int .i64 k,.bool x,.int .i64 n,.string s,.slice ka ks.length kc,.slice la ts.length lc] 60)=G:=⟨_,rfl⟩
 have HX:Hid (∀ W,Below G.heap.size G W->Below w.heap.size w W/\(W.cell? ⟨w.heap.size,3,none⟩=some (.string s)/\W.cell? ⟨w.heap.size,4,none⟩=some (.slice ka ks.length kc)/\W.cell? ⟨w.heap.size,5,none⟩=some (.slice la ts.length lc))):=fun W hb=>by
  rw [<- O] at hb
  obtain ⟨h1,h2⟩:=Zip hb
  exact ⟨h1,h2 3 _ rfl,h2 4 _ rfl,h2 5 _ rfl⟩
 have L:Hid (Zo4 (.mk k x n s ks ts)=1+cntL ts/\Zm5 (.mk k x n s ks ts)=hgtL ts+1/\Zlc (.mk k x n s ks ts)=s.size+Zx ks+bytL ts/\Zm4 (.mk k x n s ks ts)=max (ts.length:Int) (lngL ts)):=by
  refine ⟨?_,?_,?_,?_⟩
  ·rw [Zo4]
  ·rw [Zm5]
  ·rw [Zlc]
  ·rw [Zm4]
 have R:=Zb O
 have b1:=Zb ih
 have a5:=Zb hk
 have b0:=Zb ht
 have f:=Zb E
 have d0:=Zb K
 have F:=Zb X
 have c7:(s.size:Int)<=2000000:=by omega
 have c9:(ts.length:Int)<=2000000:=by omega
 have c8:(ks.length:Int)<=2000000:=by have:=Zdx ts;omega
 generalize Zo4 (.mk k x n s ks ts)=r1 at *
 generalize Zm5 (.mk k x n s ks ts)=r2 at *
 generalize Zlc (.mk k x n s ks ts)=r3 at *
 generalize Zm4 (.mk k x n s ks ts)=r4 at *
 clear ih hk ht O b7 K X E
 obtain ⟨_,o,m,q⟩:=HX.out G (Below.refl _ _)
 go_enter Tryz.func69,Tryz.ntmps69
 go_upto_region 1 with fail
 rw [R.out]
 go_quiet (fail)
 go_wp2_with fail
 clear o m q R
 go_loopw [10,8] (fun i u wr=>∃ j:Nat,j<=ks.length/\i=.int .i64 j/\u=.int .i64 ((s.size:Int)+Zx (ks.take j))/\Below G.heap.size G wr) (fun i _ _=>ks.length - (intOf i).toNat)
 case atStart=>exact ⟨0,Nat.zero_le _,rfl,by simp [Zx],below_drewN (Below.refl _ _) _⟩
 case round =>
  obtain ⟨j,hj,rfl,rfl,Q⟩:=hrel
  obtain ⟨a6,q3,q4,q5⟩:=HX.out wr Q
  have Y:=Zb Q
  have a9:=Zb a6
  clear Q a6 q3 q5
  have a4:=Zd0 ks j
  have a1:=Jz (ks.take j)
  by_cases hja:j<ks.length
  ·obtain ⟨bk,off,rfl,d5,H⟩:=(a5.out.below (a9.out.mono hB)).resolve_left (by intro e;subst e;simp at hja)
   have hc:=(H j hja).1
   have a0:=Zb (Zf3 ks j hja)
   have a2:=Zd0 ks (j+1)
   clear H
   generalize ks.getD j ⟨#[]⟩=y at *
   have d4:(s.size:Int)+Zx (ks.take j)+y.size<=2000000:=by have:=f.out;have:=a0.out;have:=Zdx ts;omega
   have d6:0<=(s.size:Int)+Zx (ks.take j):=by omega
   clear a4 a1 a2
   generalize Zx (ks.take j)=kb at *
   go_wp2_with fail
   go_roundw
   case rel=>exact ⟨j+1,by omega,by go_num,by rw [a0.out,<- Int.add_assoc],Y.out⟩
   case measure=>simp [intOf];omega
  ·have a8:Hid (Zx (ks.take j)=Zx ks):=by show _=_;rw [List.take_of_length_le (by omega)]
   clear a4 a1
   rw [a8.out]
   clear a8 a5
   go_wp2_with fail
   clear q4
   go_loopw [11,6,7,8,9] (fun i a b c d wr=>∃ p:Nat,p<=ts.length/\i=.int .i64 p/\Jk2 ((s.size:Int)+Zx ks) ts p a b c d/\Below G.heap.size G wr) (fun i _ _ _ _ _=>ts.length - (intOf i).toNat)
   case atStart=>exact ⟨0,Nat.zero_le _,rfl,⟨by simp [cntL],by simp [hgtL],by simp [bytL],by simp [lngL]⟩,Y.out⟩
   case round =>
    obtain ⟨p,hp,rfl,⟨rfl,rfl,rfl,rfl⟩,z⟩:=hrel
    obtain ⟨I,q3,q4,q5⟩:=HX.out _ z
    have M:=Zb z
    have r:=Zb I
    clear z I q3 q4
    have N:=sizeL_le (ts.take p)
    have U:=Zh8 ts p
    by_cases hlt:p<ts.length
    ·obtain ⟨bl,off,rfl,b4,a3⟩:=b0.out.resolve_left (by intro e;subst e;simp at hlt)
     obtain ⟨⟨D,A,C,o,m,q⟩,hx⟩:∃ t,ts[p]?=some t:=⟨_,List.getElem?_eq_getElem hlt⟩
     obtain ⟨ja,jc,jl,jd,⟨c0,c1,c2,c3,c4,c5⟩,V⟩:=(a3.below (r.out.mono hB) b4).cells hx
     have hm:=Zgw (List.mem_of_getElem? hx)
     have HC:=Zb (b1.out _ (List.mem_of_getElem? hx) B _ wr (Nat.le_trans hB r.out.size) V (by have:=f.out;have:=F.out;omega))
     have b8:=Zh3 (.mk D A C o m q)
     have b3:=sizeL_le (ts.take (p+1))
     have b5:=Zh8 ts (p+1)
     have S:Hid (cntL (ts.take (p+1))=cntL (ts.take p)+Zo4 (.mk D A C o m q)/\hgtL (ts.take (p+1))=max (hgtL (ts.take p)) (Zm5 (.mk D A C o m q))/\bytL (ts.take (p+1))=bytL (ts.take p)+Zlc (.mk D A C o m q)/\lngL (ts.take (p+1))=max (lngL (ts.take p)) (Zm4 (.mk D A C o m q))):=by
      rw [Zit hx]
      have g:=Zh3 (.mk D A C o m q)
      refine ⟨?_,?_,?_,?_⟩
      ·rw [Zh4];simp [cntL]
      ·rw [Zh7];simp only [hgtL];omega
      ·rw [Zh5];simp [bytL]
      ·rw [Zh6];simp only [lngL];omega
     clear a3 V hx
     generalize Zo4 (.mk D A C o m q)=t1 at *
     generalize Zm5 (.mk D A C o m q)=t2 at *
     generalize Zlc (.mk D A C o m q)=t3 at *
     generalize Zm4 (.mk D A C o m q)=t4 at *
     generalize (Zi.mk D A C o m q).total=t5 at *
     have hA:cntL (ts.take p)+t1<=2000000/\bytL (ts.take p)+t3+(s.size:Int)+Zx ks<=2000000:=by have:=f.out;have:=F.out;have:=S.out;omega
     have d2:=F.out
     have hN:0<=cntL (ts.take p)/\0<=bytL (ts.take p)/\0<=t1/\0<=t3:=by omega
     clear N U b8 b3 b5 hm
     generalize cntL (ts.take p)=m1 at *
     generalize hgtL (ts.take p)=m2 at *
     generalize bytL (ts.take p)=m3 at *
     generalize lngL (ts.take p)=m4 at *
     generalize Zx ks=kb at *
     go_wp2_with fail
     refine HC.out.mono ?_;rintro e w' ⟨rfl,a7⟩
     have b2:=Zb (M.out.trans (a7.mono M.out.size))
     clear a7 c0 c1 c2 c3 c4 c5 q5 HC
     go_wp2_with fail
     go_roundw
     case rel =>
      refine ⟨p+1,by omega,by go_num,⟨?_,?_,?_,?_⟩,b2.out⟩
      ·rw [S.out.1,<- Int.add_assoc]
      ·rw [S.out.2.1]
      ·rw [S.out.2.2.1,<- Int.add_assoc]
      ·rw [S.out.2.2.2]
     case measure=>simp [intOf];omega
    ·have HT:Hid (ts.take p=ts):=List.take_of_length_le (by omega)
     rw [HT.out] at N |-
     have hh:0<=hgtL ts/\hgtL ts<=2000000:=by have:=f.out;have:=F.out;omega
     clear N U HT
     obtain ⟨e1,e2,e3,e4⟩:=L.out
     have HE:=Zb (And.intro e1 (And.intro e2 (And.intro e3 e4)))
     clear e1 e2 e3 e4 L
     go_wp2_with fail
     (try simp only [Exit.inBlock,Exit.then]);refine bodyPost_ret (Zld rfl _ _ _) rfl ?_
     refine ⟨?_,r.out⟩
     rw [HE.out.1,HE.out.2.1,HE.out.2.2.1,HE.out.2.2.2]
     rfl
end
section
open Go.RowKit Go.WideShapes Go.Shelf
theorem Zs7  : (⟨#[]⟩:ByteArray).toList.isEmpty=true:=by
 rw [show (⟨#[]⟩:ByteArray)=ByteArray.empty from rfl];simp
theorem Zv3 (l:List (Int × Zi)):∀ a:Int,a<=1048576->(Zcx a l=true↔((∃ x ∈ l,64<x.1)\/(∃ x ∈ l,65536<x.2.kids.length)\/1048576<a+Jb l)):=by
 induction l with
 | nil=>intro a h;simp [Zcx,Jb];omega
 | cons x r ih =>
  intro a h
  obtain ⟨d,t⟩:=x
  have q:Jb ((d,t)::r)=t.bytes+Jb r:=by simp [Jb]
  have M:=Zdg r
  rw [q]
  simp only [Zcx,Bool.or_eq_true,decide_eq_true_eq,List.mem_cons,exists_eq_or_imp]
  by_cases g:1048576<a+t.bytes
  ·have:1048576<a+(t.bytes+Jb r):=by omega
   simp [g,this]
  ·rw [ih (a+t.bytes) (by omega)]
   have e:a+t.bytes+Jb r=a+(t.bytes+Jb r):=by omega
   rw [e]
   simp only [g,or_false]
   constructor
   ·rintro ((h | h) | h | h | h)
    ·exact .inl (.inl h)
    ·exact .inr (.inl (.inl h))
    ·exact .inl (.inr h)
    ·exact .inr (.inl (.inr h))
    ·exact .inr (.inr h)
   ·rintro ((h | h) | (h | h) | h)
    ·exact .inl (.inl h)
    ·exact .inr (.inl h)
    ·exact .inl (.inr h)
    ·exact .inr (.inr (.inl h))
    ·exact .inr (.inr (.inr h))
mutual
theorem Znk  : ∀ (T:Zi) (d:Int),Jb (T.pre d)=Zlc T
 | .mk k b n s ks ts,d=>by
  have h:=preL_bytes ts (d+1)
  have e:Jb ((d,Zi.mk k b n s ks ts)::Zi.preL (d+1) ts)=Jb [(d,Zi.mk k b n s ks ts)]+Jb (Zi.preL (d+1) ts):=Zbl [_] _
  rw [Zi.pre,e,Zfj,h,Zlc]
theorem preL_bytes  : ∀ (l:List Zi) (d:Int),Jb (Zi.preL d l)=bytL l
 | [],d=>by simp [Zi.preL,Jb,bytL]
 | t::ts,d=>by rw [Zi.preL,Zbl,Znk t d,preL_bytes ts d,bytL]
end
mutual
theorem Zq6  : ∀ (T:Zi) (d L:Int),(∃ x ∈ T.pre d,L<x.1)↔L<d - 1+Zm5 T
 | .mk k b n s ks ts,d,L=>by
  have h:=preL_deep ts (d+1) L
  rw [Zi.pre,Zm5]
  simp only [List.mem_cons,exists_eq_or_imp]
  have e:d+1 - 1=d:=by omega
  rw [e] at h
  have e2:d - 1+(hgtL ts+1)=d+hgtL ts:=by omega
  rw [e2,<- h]
  exact Or.comm
theorem preL_deep  : ∀ (l:List Zi) (d L:Int),((∃ x ∈ Zi.preL d l,L<x.1)\/L<d - 1)↔L<d - 1+hgtL l
 | [],d,L=>by simp [Zi.preL,hgtL]
 | t::ts,d,L=>by
  have h1:=Zq6 t d L
  have h2:=preL_deep ts d L
  have h3:=(Zh3 t).2.2.2.1
  have D:=(sizeL_le ts).2.2.2.1.1
  rw [Zi.preL,hgtL]
  simp only [List.mem_append,or_and_right,exists_or,or_assoc]
  rw [h1,h2]
  omega
end
mutual
theorem Zq7  : ∀ (T:Zi) (d:Int),(∃ x ∈ T.pre d,65536<x.2.kids.length)↔65536<Zm4 T
 | .mk k b n s ks ts,d=>by
  have h:=preL_long ts (d+1)
  rw [Zi.pre,Zm4]
  simp only [List.mem_cons,exists_eq_or_imp]
  rw [h]
  show (65536<ts.length\/_)↔_
  omega
theorem preL_long  : ∀ (l:List Zi) (d:Int),(∃ x ∈ Zi.preL d l,65536<x.2.kids.length)↔65536<lngL l
 | [],d=>by simp [Zi.preL,lngL]
 | t::ts,d=>by
  have h1:=Zq7 t d
  have h2:=preL_long ts d
  rw [Zi.preL,lngL]
  simp only [List.mem_append,or_and_right,exists_or]
  rw [h1,h2]
  omega
end
theorem Zpg {ks:List ByteArray} (h:ks.length=0):Zbz ks=true:=Zfq fun i N=>by omega
theorem Zph (k:Int) (b:Bool) (n:Int) (s:ByteArray) (ks:List ByteArray) (ts:List Zi):Zw (.mk k b n s ks ts)=(!badB k b n s ks.length ts.length&&Zbz ks):=by
 have P:=@Zpg ks
 simp only [Zw,badB,rbareB,Zav]
 generalize Zbz ks=rz at *
 generalize Lib.validD s.data.toList=vd
 have K:(⟨#[]⟩:ByteArray).toList.isEmpty=true:=Zs7
 rw [K]
 generalize s.toList.isEmpty=se
 generalize ks.length=kl at *
 generalize ts.length=ll
 by_cases h0:k=0
 ·subst h0;cases b<;>cases se<;>cases vd<;>by_cases g1:n=0<;>by_cases g2:kl=0<;>by_cases g3:ll=0<;>simp_all
 by_cases h1:k=1
 ·subst h1;cases b<;>cases se<;>cases vd<;>by_cases g1:n=0<;>by_cases g2:kl=0<;>by_cases g3:ll=0<;>simp_all
 by_cases h2:k=2
 ·subst h2;cases b<;>cases se<;>cases vd<;>by_cases g2:kl=0<;>by_cases g3:ll=0<;>simp_all
 by_cases h6:k=6
 ·subst h6
  by_cases g1:n<0
  ·have e:(min n 0==0)=false:=by rw [beq_eq_false_iff_ne];omega
   cases b<;>cases se<;>cases vd<;>by_cases g2:kl=0<;>by_cases g3:ll=0<;>simp_all
  ·have e:(min n 0==0)=true:=by rw [beq_iff_eq];omega
   cases b<;>cases se<;>cases vd<;>by_cases g2:kl=0<;>by_cases g3:ll=0<;>simp_all
 by_cases h7:k=7
 ·subst h7
  by_cases g1:n<0
  ·have e:(min n 0==0)=false:=by rw [beq_eq_false_iff_ne];omega
   cases b<;>cases se<;>cases vd<;>by_cases g2:kl=0<;>by_cases g3:ll=0<;>simp_all
  ·have e:(min n 0==0)=true:=by rw [beq_iff_eq];omega
   cases b<;>cases se<;>cases vd<;>by_cases g2:kl=0<;>by_cases g3:ll=0<;>simp_all
 by_cases h3:k=3
 ·subst h3;cases b<;>cases se<;>cases vd<;>by_cases g1:n=0<;>by_cases g2:kl=0<;>by_cases g3:ll=0<;>simp_all
 by_cases h5:k=5
 ·subst h5
  by_cases g2:kl=ll
  ·subst g2
   cases b<;>cases se<;>cases vd<;>cases rz<;>by_cases g1:n=0<;>simp_all
  ·have e:((kl:Int) != (ll:Int))=true:=by rw [bne_iff_ne];omega
   have H:(kl==ll)=false:=beq_eq_false_iff_ne.2 g2
   rw [e,H]
   clear e H
   cases b<;>cases se<;>cases vd<;>cases rz<;>by_cases g1:n=0<;>simp_all
 by_cases D:k=4
 ·subst D;cases b<;>cases se<;>cases vd<;>by_cases g1:n=0<;>by_cases g2:kl=0<;>simp_all
 have I:(decide (k<0)||decide (7<k))=true:=by
  rw [Bool.or_eq_true,decide_eq_true_eq,decide_eq_true_eq]
  omega
 rw [I]
 simp [h0,h1,h2,h3,D,h5,h6,h7]
mutual
theorem Zv4  : ∀ (T:Zi) (d:Int),(T.pre d).all (fun x=>Zw x.2)=Ziq T
 | .mk k b n s ks ts,d=>by
  rw [Zi.pre,Ziq,List.all_cons,may_preL ts (d+1),Zph,Bool.and_assoc]
theorem may_preL  : ∀ (l:List Zi) (d:Int),(Zi.preL d l).all (fun x=>Zw x.2)=mayL l
 | [],d=>rfl
 | t::ts,d=>by rw [Zi.preL,mayL,List.all_append,Zv4 t d,may_preL ts d]
end
theorem Zq8 (T:Zi):checkN T=if Ziq T=true then (if 64<Zm5 T\/1048576<Zlc T\/65536<Zm4 T then 3 else 0) else 110:=by
 unfold checkN
 rw [Zv4]
 have h:=Zv3 (T.pre 1) 0 (by omega)
 rw [Zq6,Zq7,Znk] at h
 have e:(Zcx 0 (T.pre 1)=true)=(64<Zm5 T\/1048576<Zlc T\/65536<Zm4 T):=propext (by rw [h];omega)
 simp only [e]
set_option maxRecDepth 100000 in
set_option maxHeartbeats 1000000 in
theorem Zs8 (T:Zi) (B:Nat) (v:Value) (w:World) (z:B<=w.heap.size) (C:Zaw B w v T) (E:Zln T) (o:T.total<=2000000) :
  Calls Tryz.prog 51 #[v] w fun e w'=>e=.returned (.int .i64 (checkN T))/\Below w.heap.size w w':=by
 have F:Hid (∀ W,Below w.heap.size w W->Calls Tryz.prog 110 #[v] W fun e w'=>e=.returned (.bool (Ziq T))/\Below W.heap.size W w'):=fun W q =>
  Jco T B v W (Nat.le_trans z q.size) (C.below (q.mono z)) E
 have G:Hid (∀ W,Below w.heap.size w W->Calls Tryz.prog 69 #[v] W fun e w'=>e=.returned (.tuple #[.int .i64 (Zo4 T),.int .i64 (Zm5 T),.int .i64 (Zlc T),.int .i64 (Zm4 T)])/\Below W.heap.size W w'):=fun W q =>
  Zh9 T B v W (Nat.le_trans z q.size) (C.below (q.mono z)) o
 have j:=Zb (Zq8 T)
 generalize Ziq T=m at *
 generalize Zo4 T=t1 at *
 generalize Zm5 T=t2 at *
 generalize Zlc T=t3 at *
 generalize Zm4 T=t4 at *
 obtain ⟨k,x,n,s,ks,ts⟩:=T
 simp only [Zaw] at C
 obtain ⟨ka,kc,la,lc,rfl,-⟩:=C
 have A:=Zb ((Below.refl w.heap.size w).alloc (Nat.le_refl _) (.cells #[.int .i64 k,.bool x,.int .i64 n,.string s,.slice ka ks.length kc,.slice la ts.length lc] 60))
 generalize checkN (.mk k x n s ks ts)=res at *
 clear z E o
 go_enter Tryz.func51,Tryz.ntmps51
 go_wp2_with fail
 refine (F.out _ A.out).mono ?_
 rintro e w1 ⟨rfl,h1⟩
 obtain ⟨y,u⟩:=Zip h1
 have c0:=u 0 _ rfl
 have c1:=u 1 _ rfl
 have c2:=u 2 _ rfl
 have c3:=u 3 _ rfl
 have c4:=u 4 _ rfl
 have c5:=u 5 _ rfl
 have f:=Zb y
 clear u h1 y A F
 cases m
 ·go_wp2_with fail
  go_ret
  exact ⟨by rw [j.out];rfl,f.out⟩
 ·go_wp2_with fail
  refine (G.out _ f.out).mono ?_
  rintro e O ⟨rfl,h2⟩
  have c:=Zb (Za f.out h2)
  clear h2 c0 c1 c2 c3 c4 c5 G f
  by_cases g1:64<t2
  ·have p:Hid (res=3):=j.out.trans (by simp [g1])
   have d1:decide (64<t2)=true:=decide_eq_true g1
   clear j g1
   go_wp2_with fail
   go_ret
   exact ⟨by rw [p.out];rfl,c.out⟩
  ·have d1:decide (64<t2)=false:=decide_eq_false g1
   by_cases g2:1048576<t3
   ·have p:Hid (res=3):=j.out.trans (by simp [g2])
    have d2:decide (1048576<t3)=true:=decide_eq_true g2
    clear j g1 g2
    go_wp2_with fail
    go_ret
    exact ⟨by rw [p.out];rfl,c.out⟩
   ·have d2:decide (1048576<t3)=false:=decide_eq_false g2
    by_cases g3:65536<t4
    ·have p:Hid (res=3):=j.out.trans (by simp [g3])
     have d3:decide (65536<t4)=true:=decide_eq_true g3
     clear j g1 g2 g3
     go_wp2_with fail
     go_ret
     exact ⟨by rw [p.out];rfl,c.out⟩
    ·have p:Hid (res=0):=j.out.trans (by simp [g1,g2,g3])
     have d3:decide (65536<t4)=false:=decide_eq_false g3
     clear j g1 g2 g3
     go_wp2_with fail
     go_ret
     exact ⟨by rw [p.out];rfl,c.out⟩
end
section
open Go.RowKit Go.Shelf
attribute [local go_sem] Oper.semAt_some
set_option maxRecDepth 100000 in
set_option maxHeartbeats 2000000 in
theorem Zqd (T:Zi) (B:Nat) (v:Value) (w:World) (Y:B<=w.heap.size) (V:Zaw B w v T):Calls Tryz.prog 149 #[v] w fun e w'=>e=.returned (.bool (Zen T))/\Below w.heap.size w w':=by
 obtain ⟨k,x,n,s,ks,ts⟩:=T
 simp only [Zaw] at V
 obtain ⟨ka,kc,la,lc,rfl,⟨a0,a1,a3,a2,Q⟩,hk,X⟩:=V
 unfold maxLen at Q
 obtain ⟨m,l⟩:∃ m,w.alloc (.cells #[.int .i64 k,.bool x,.int .i64 n,.string s,.slice ka ks.length kc,.slice la ts.length lc] 60)=m:=⟨_,rfl⟩
 have N:Below w.heap.size w m:=l▸(Below.refl _ _).alloc (Nat.le_refl _) _
 have o:m.heap[w.heap.size]?=some (.cells #[.int .i64 k,.bool x,.int .i64 n,.string s,.slice ka ks.length kc,.slice la ts.length lc] 60 (0,0)):=l▸World.alloc_heap_new _ _
 have H:w.heap.size<m.heap.size:=(Array.getElem?_eq_some_iff.1 o).1
 have HX:Hid (∀ W,Below m.heap.size m W->Below w.heap.size w W/\W.cell? ⟨w.heap.size,0,none⟩=some (.int .i64 k)/\W.cell? ⟨w.heap.size,5,none⟩=some (.slice la ts.length lc)):=fun W U=>by
  have e:=(U.block _ H).trans o
  exact ⟨N.trans (U.mono (by omega)),by unfold World.cell?;simp only [e];rfl,by unfold World.cell?;simp only [e];rfl⟩
 have S:Hid (ts=[]\/∃ A off,la=some ⟨A,off,none⟩/\A<B/\KidsLie B w A off ts):=X
 have K:Hid (Zen (.mk k x n s ks ts)=(Zxd ts&&(if k=4 then (if ts=[] then true else Zar (Zb2 ts)) else Zar k))):=rfl
 have z:=Zb l
 clear l o X hk
 go_enter Tryz.func149,Tryz.ntmps149
 go_wp2_with fail
 rw [z.out]
 clear z
 go_loopw [3] (fun i wr=>∃ j:Nat,j<=ts.length/\i=.int .i64 j/\Below m.heap.size m wr/\(ts.take j).all (fun t=>t.kind==Zb2 ts)=true) (fun i _=>ts.length - (intOf i).toNat)
 case atStart=>exact ⟨0,Nat.zero_le _,rfl,Below.refl _ _,rfl⟩
 case round =>
  obtain ⟨j,hj,rfl,q,E⟩:=hrel
  have M:=Zb q
  have r:=Zb E
  obtain ⟨F,q0,q5⟩:=HX.out wr q
  have b:=Zb F
  clear q F E
  by_cases hlt:j<ts.length
  ·obtain ⟨A,off,rfl,p,d⟩:=S.out.resolve_left (by intro e;subst e;simp at hlt)
   obtain ⟨⟨P,p1,p2,p3,p4,p5⟩,R⟩:∃ t,ts[j]?=some t:=⟨_,List.getElem?_eq_getElem hlt⟩
   have y:=d.below (b.out.mono Y) p
   obtain ⟨_,_,_,_,⟨c0,_⟩,_⟩:=y.cells R
   have d0:=y.first (by omega)
   have G:=Zb R
   obtain ⟨I,a⟩:∃ f,Zb2 ts=f:=⟨_,rfl⟩
   rw [a] at d0
   have h:=Zb a
   have g:(0:Int)<ts.length:=by omega
   clear d y R a
   go_wp2_with fail
   go_quiet (fail)
   by_cases e:P=I
   ·have e':(P != I)=false:=by simp [e]
    go_wp2_with fail
    go_roundw
    case rel=>exact ⟨j+1,by omega,by go_num,below_drewN M.out _,Zgd r.out G.out (by rw [h.out];simp [Zi.kind,e])⟩
    case measure=>simp [intOf];omega
   ·have e':(P != I)=true:=by simp [e]
    have O:Hid (Zen (.mk k x n s ks ts)=false):=by
     show _=_
     rw [K.out]
     have:Zxd ts=false:=Zjd G.out (by rw [h.out];simp [Zi.kind,e])
     rw [this];rfl
    go_wp2_with fail
    go_ret
    exact ⟨by rw [O.out];rfl,below_drewN b.out _⟩
  ·have C:Hid (Zxd ts=true):=by
    have:=r.out
    rw [List.take_of_length_le (by omega)] at this
    exact this
   have u:Hid (Zen (.mk k x n s ks ts)=(if k=4 then (if ts=[] then true else Zar (Zb2 ts)) else Zar k)):=by
    show _=_;rw [K.out,C.out,Bool.true_and]
   clear r K C
   by_cases k4:k=4
   ·have L:(k==4)=true:=by simp [k4]
    by_cases g:0<ts.length
    ·have D:(0:Int)<ts.length:=by omega
     obtain ⟨A,off,rfl,p,d⟩:=S.out.resolve_left (by intro e;subst e;simp at g)
     have d0:=(d.below (b.out.mono Y) p).first g
     have c:Hid (Zen (.mk k x n s ks ts)=Zar (Zb2 ts)):=by
      show _=_;rw [u.out,if_pos k4,if_neg (by intro e;subst e;simp at g)]
     obtain ⟨I,a⟩:∃ f,Zb2 ts=f:=⟨_,rfl⟩
     rw [a] at d0
     have h:=Zb a
     clear d a
     go_wp2_with fail
     all_goals
      go_ret
      refine ⟨?_,b.out⟩
      rw [c.out,h.out]
      simp_all [Zar]
    ·have D:¬ (0:Int)<ts.length:=by omega
     have c:Hid (Zen (.mk k x n s ks ts)=true):=by
      show _=_;rw [u.out,if_pos k4,if_pos (List.eq_nil_of_length_eq_zero (by omega))]
     clear k4
     go_wp2_with fail
     go_ret
     exact ⟨by rw [c.out];rfl,b.out⟩
   ·have L:(k==4)=false:=by simp [k4]
    have c:Hid (Zen (.mk k x n s ks ts)=Zar k):=by
     show _=_;rw [u.out,if_neg k4]
    go_wp2_with fail
    all_goals
     go_ret
     refine ⟨?_,b.out⟩
     rw [c.out]
     simp_all [Zar]
end
section
open Go.RowKit Go.Shelf
def Zcy (T:Zi):Bool:=decide (checkN T=0)&&Zen T
set_option maxRecDepth 100000 in
set_option maxHeartbeats 4000000 in
theorem Zl8 (T:Zi) (B:Nat) (v:Value) (w:World) (F:B<=w.heap.size) (L:Zaw B w v T) (Q:Zln T) (i:T.total<=2000000):Calls Tryz.prog 103 #[v] w fun e w'=>e=.returned (.bool (Zcy T))/\Below w.heap.size w w':=by
 have M:=Zb L
 obtain ⟨z,o⟩:∃ c,checkN T=c:=⟨_,rfl⟩
 obtain ⟨I,t⟩:∃ c,Zen T=c:=⟨_,rfl⟩
 have g:Hid (∀ W,Below w.heap.size w W->Calls Tryz.prog 51 #[v] W fun e w'=>e=.returned (.int .i64 z)/\Below W.heap.size W w'):=fun W h=>by
  rw [<- o];exact Zs8 T B v W (Nat.le_trans F h.size) (M.out.below (h.mono F)) Q i
 have C:Hid (∀ W,Below w.heap.size w W->Calls Tryz.prog 149 #[v] W fun e w'=>e=.returned (.bool I)/\Below W.heap.size W w'):=fun W h=>by
  rw [<- t];exact Zqd T B v W (Nat.le_trans F h.size) (M.out.below (h.mono F))
 have H:Hid (Zcy T=(decide (z=0)&&I)):=by
  show _=_
  unfold Zcy
  rw [o,t]
 obtain ⟨res,j⟩:∃ r,Zcy T=r:=⟨_,rfl⟩
 rw [j] at H |-
 clear o t Q i M j
 obtain ⟨k,x,n,s,ks,ts⟩:=T
 simp only [Zaw] at L
 obtain ⟨ka,kc,la,lc,rfl,⟨U,X,S,R,O⟩,_,_⟩:=L
 unfold maxLen at O
 obtain ⟨m,f⟩:∃ m,w.alloc (.cells #[.int .i64 k,.bool x,.int .i64 n,.string s,.slice ka ks.length kc,.slice la ts.length lc] 60)=m:=⟨_,rfl⟩
 have y:Below w.heap.size w m:=f▸(Below.refl _ _).alloc (Nat.le_refl _) _
 have p:m.heap[w.heap.size]?=some (.cells #[.int .i64 k,.bool x,.int .i64 n,.string s,.slice ka ks.length kc,.slice la ts.length lc] 60 (0,0)):=f▸World.alloc_heap_new _ _
 have l:w.heap.size<m.heap.size:=(Array.getElem?_eq_some_iff.1 p).1
 have V:Hid (∀ W,Below m.heap.size m W->Below w.heap.size w W/\W.cell? ⟨w.heap.size,0,none⟩=some (.int .i64 k)/\W.cell? ⟨w.heap.size,1,none⟩=some (.bool x)/\W.cell? ⟨w.heap.size,2,none⟩=some (.int .i64 n)/\W.cell? ⟨w.heap.size,3,none⟩=some (.string s)/\W.cell? ⟨w.heap.size,4,none⟩=some (.slice ka ks.length kc)/\W.cell? ⟨w.heap.size,5,none⟩=some (.slice la ts.length lc)):=fun W h=>by
  have e:=(h.block _ l).trans p
  refine ⟨y.trans (h.mono (by omega)),?_,?_,?_,?_,?_,?_⟩<;>(unfold World.cell?;simp only [e];rfl)
 have E:=Zb (g.out m y)
 have u:=Zb f
 have Y:=Zb l
 clear f p g
 go_enter Tryz.func103,Tryz.ntmps103
 go_wp2_with fail
 rw [u.out]
 refine E.out.mono ?_
 rintro e P ⟨rfl,A⟩
 obtain ⟨d,q0,q1,q2,q3,q4,q5⟩:=V.out P A
 have b:=Zb d
 have K:=Zb (C.out P d)
 clear A d u E
 by_cases hc:z=0
 ·have N:(z==0)=true:=by simp [hc]
  have q:Hid (res=I):=by
   show _=_
   rw [H.out,hc];rfl
  clear hc
  go_wp2_with fail
  refine K.out.mono ?_
  rintro e w3 ⟨rfl,D⟩
  have G:=Zb D
  clear D
  go_wp2_with fail
  go_ret
  exact ⟨by rw [q.out];rfl,b.out.trans (G.out.mono b.out.size)⟩
 ·have N:(z==0)=false:=by simp [hc]
  have q:Hid (res=false):=by
   show _=_
   rw [H.out,decide_eq_false hc];rfl
  clear hc
  go_wp2_with fail
  go_ret
  exact ⟨by rw [q.out];rfl,b.out⟩
end
