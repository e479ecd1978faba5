/- The document's Size: how many values there are, how deep, how many bytes, and the longest list. -/
import Derived.Test.YteddjlbfbpecjaaGreatDoorJoin22
import Derived.Test.YteddjlbfbpecjaaGreatDoorJoin15
import Derived.Test.YteddjlbfbpecjaaGreatDoorJoin12
namespace Go.Proofs.YteddjlbfbpecjaaGreatDoor
section
open Go.RowKit Go.WideShapes Go.Shelf
set_option linter.all false
mutual
def Zm2  : Zk→Int
 | .mk k b n s ks ts=>1+cntL ts
def cntL  : List Zk→Int
 | []=>0
 | t::ts=>Zm2 t+cntL ts
end
mutual
def Zjv  : Zk→Int
 | .mk k b n s ks ts=>s.size+Zx ks+bytL ts
def bytL  : List Zk→Int
 | []=>0
 | t::ts=>Zjv t+bytL ts
end
mutual
def Zlf  : Zk→Int
 | .mk k b n s ks ts=>max (ts.length:Int) (lngL ts)
def lngL  : List Zk→Int
 | []=>0
 | t::ts=>max (Zlf t) (lngL ts)
end
mutual
def Zlg  : Zk→Int
 | .mk k b n s ks ts=>hgtL ts+1
def hgtL  : List Zk→Int
 | []=>0
 | t::ts=>max (Zlg t) (hgtL ts)
end
mutual
theorem Zhd  : ∀ (T:Zk),(1≤Zm2 T∧Zm2 T≤T.total)∧(0≤Zjv T∧Zjv T≤T.total)∧(0≤Zlf T∧Zlf T≤T.total)∧(1≤Zlg T∧Zlg T≤T.total)
 | .mk k b n s ks ts=>by
  have h:=sizeL_le ts
  have hk:=Jt ks
  simp only [Zm2,Zjv,Zlf,Zlg,Zk.total]
  omega
theorem sizeL_le  : ∀ (l:List Zk),(0≤cntL l∧cntL l≤Zk.totalL l)∧(0≤bytL l∧bytL l≤Zk.totalL l)∧(0≤lngL l∧lngL l≤Zk.totalL l)∧(0≤hgtL l∧hgtL l≤Zk.totalL l)∧(l.length:Int)≤Zk.totalL l
 | []=>by simp [cntL,bytL,lngL,hgtL,Zk.totalL]
 | t::ts=>by
  have h:=Zhd t
  have g:=sizeL_le ts
  simp only [cntL,bytL,lngL,hgtL,Zk.totalL,List.length_cons]
  omega
end
theorem Zhe  : ∀ (a b:List Zk),cntL (a++b)=cntL a+cntL b
 | [],b=>by simp [cntL]
 | t::a,b=>by simp only [List.cons_append,cntL,Zhe a b];omega
theorem Zhf  : ∀ (a b:List Zk),bytL (a++b)=bytL a+bytL b
 | [],b=>by simp [bytL]
 | t::a,b=>by simp only [List.cons_append,bytL,Zhf a b];omega
theorem Zhg  : ∀ (a b:List Zk),lngL (a++b)=max (lngL a) (lngL b)
 | [],b=>by have:=(sizeL_le b).2.2.1.1;simp only [List.nil_append,lngL];omega
 | t::a,b=>by simp only [List.cons_append,lngL,Zhg a b];omega
theorem Zhh  : ∀ (a b:List Zk),hgtL (a++b)=max (hgtL a) (hgtL b)
 | [],b=>by have:=(sizeL_le b).2.2.2.1.1;simp only [List.nil_append,hgtL];omega
 | t::a,b=>by simp only [List.cons_append,hgtL,Zhh a b];omega
theorem Zfn  : ∀ (a b:List Zk),Zk.totalL (a++b)=Zk.totalL a+Zk.totalL b
 | [],b=>by simp [Zk.totalL]
 | t::a,b=>by simp only [List.cons_append,Zk.totalL,Zfn a b];omega
theorem Zdj (l:List Zk):0≤Zk.totalL l:=by have:=(sizeL_le l).1;omega
theorem Zhi (ts:List Zk) (p:Nat):Zk.totalL (ts.take p)≤Zk.totalL ts:=by
 have h:=Zfn (ts.take p) (ts.drop p)
 rw [List.take_append_drop] at h
 have:=Zdj (ts.drop p)
 omega
def Jgu (s0:Int) (ts:List Zk) (p:Nat) (a b c d:Value):Prop :=
 a=.int .i64 (1+cntL (ts.take p))∧b=.int .i64 (hgtL (ts.take p))∧c=.int .i64 (s0+bytL (ts.take p))∧d=.int .i64 (max (ts.length:Int) (lngL (ts.take p)))
theorem Zjw {fn:Func} {t u v x:Tmp} (h:fn.results=#[.tmp t,.tmp u,.tmp v,.tmp x]) (tmps:Array Value) (P:Program) (w:World) :
  (results fn tmps).run P w=.ok (.tuple #[tmps.getD t undef,tmps.getD u undef,tmps.getD v undef,tmps.getD x undef]) w:=by
 simp [results,h]
set_option maxRecDepth 100000 in
set_option maxHeartbeats 4000000 in
theorem Zhj  : ∀ (T:Zk) (B:Nat) (v:Value) (w:World),B≤w.heap.size→Zaw B w v T→T.total≤2000000 →
  Calls Tryz.prog 69 #[v] w fun e w'=>e=.returned (.tuple #[.int .i64 (Zm2 T),.int .i64 (Zlg T),.int .i64 (Zjv T),.int .i64 (Zlf T)])∧Below w.heap.size w w':=by
 refine Zk.ind ?_
 intro k x n s ks ts ih B v w hB hv htot
 have hsz:=Zhd (.mk k x n s ks ts)
 have hszL:=sizeL_le ts
 have hkb:=Jt ks
 simp only [Zaw] at hv
 obtain ⟨ka,kc,la,lc,rfl,⟨hs1,hs2,hs3,hs4,hs5⟩,hk,ht⟩:=hv
 unfold maxLen at hs1 hs3 hs5
 simp only [Zk.total] at htot
 obtain ⟨W1,hW1⟩:∃ W1,w.alloc (.cells #[.int .i64 k,.bool x,.int .i64 n,.string s,.slice ka ks.length kc,.slice la ts.length lc] 60)=W1:=⟨_,rfl⟩
 have HX:Hid (∀ W,Below W1.heap.size W1 W→Below w.heap.size w W∧(W.cell? ⟨w.heap.size,3,none⟩=some (.string s)∧W.cell? ⟨w.heap.size,4,none⟩=some (.slice ka ks.length kc)∧W.cell? ⟨w.heap.size,5,none⟩=some (.slice la ts.length lc))):=fun W hb=>by
  rw [← hW1] at hb
  obtain ⟨h1,h2⟩:=Zhw hb
  exact ⟨h1,h2 3 _ rfl,h2 4 _ rfl,h2 5 _ rfl⟩
 have HRES:Hid (Zm2 (.mk k x n s ks ts)=1+cntL ts∧Zlg (.mk k x n s ks ts)=hgtL ts+1∧Zjv (.mk k x n s ks ts)=s.size+Zx ks+bytL ts∧Zlf (.mk k x n s ks ts)=max (ts.length:Int) (lngL ts)):=by
  refine ⟨?_,?_,?_,?_⟩
  ·rw [Zm2]
  ·rw [Zlg]
  ·rw [Zjv]
  ·rw [Zlf]
 have HW1:=Zb hW1
 have HIH:=Zb ih
 have HKK:=Zb hk
 have HTT:=Zb ht
 have HTOT:=Zb htot
 have HSL:=Zb hszL
 have HKB:=Zb hkb
 have hsl1:(s.size:Int)≤2000000:=by omega
 have hsl2:(ts.length:Int)≤2000000:=by omega
 have hsl3:(ks.length:Int)≤2000000:=by have:=Zdj ts;omega
 generalize Zm2 (.mk k x n s ks ts)=r1 at *
 generalize Zlg (.mk k x n s ks ts)=r2 at *
 generalize Zjv (.mk k x n s ks ts)=r3 at *
 generalize Zlf (.mk k x n s ks ts)=r4 at *
 clear ih hk ht hW1 hsz hszL hkb htot
 obtain ⟨_,p3,p4,p5⟩:=HX.out W1 (Below.refl _ _)
 go_enter Tryz.func69,Tryz.ntmps69
 go_upto_region 1 with fail
 rw [HW1.out]
 go_quiet (fail)
 go_wp2_with fail
 clear p3 p4 p5 HW1
 go_loopw [10,8] (fun i u wr=>∃ j:Nat,j≤ks.length∧i=.int .i64 j∧u=.int .i64 ((s.size:Int)+Zx (ks.take j))∧Below W1.heap.size W1 wr) (fun i _ _=>ks.length - (intOf i).toNat)
 case atStart=>exact ⟨0,Nat.zero_le _,rfl,by simp [Zx],below_drewN (Below.refl _ _) _⟩
 case round =>
  obtain ⟨j,hj,rfl,rfl,hbr⟩:=hrel
  obtain ⟨hbw,q3,q4,q5⟩:=HX.out wr hbr
  have HBR:=Zb hbr
  have HBV:=Zb hbw
  clear hbr hbw q3 q5
  have hle:=Zdq ks j
  have hge:=Jt (ks.take j)
  by_cases hja:j<ks.length
  ·obtain ⟨bk,off,rfl,hbk,hkey⟩:=(HKK.out.below (HBV.out.mono hB)).resolve_left (by intro e;subst e;simp at hja)
   have hc:=(hkey j hja).1
   have HSN:=Zb (Zfs ks j hja)
   have hle2:=Zdq ks (j+1)
   clear hkey
   generalize ks.getD j ⟨#[]⟩=y at *
   have hb1:(s.size:Int)+Zx (ks.take j)+y.size≤2000000:=by have:=HTOT.out;have:=HSN.out;have:=Zdj ts;omega
   have hb0:0≤(s.size:Int)+Zx (ks.take j):=by omega
   clear hle hge hle2
   generalize Zx (ks.take j)=kb at *
   go_wp2_with fail
   go_roundw
   case rel=>exact ⟨j+1,by omega,by go_num,by rw [HSN.out,← Int.add_assoc],HBR.out⟩
   case measure=>simp [intOf];omega
  ·have HKT:Hid (Zx (ks.take j)=Zx ks):=by show _=_;rw [List.take_of_length_le (by omega)]
   clear hle hge
   rw [HKT.out]
   clear HKT HKK
   go_wp2_with fail
   clear q4
   go_loopw [11,6,7,8,9] (fun i a b c d wr=>∃ p:Nat,p≤ts.length∧i=.int .i64 p∧Jgu ((s.size:Int)+Zx ks) ts p a b c d∧Below W1.heap.size W1 wr) (fun i _ _ _ _ _=>ts.length - (intOf i).toNat)
   case atStart=>exact ⟨0,Nat.zero_le _,rfl,⟨by simp [cntL],by simp [hgtL],by simp [bytL],by simp [lngL]⟩,HBR.out⟩
   case round =>
    obtain ⟨p,hp,rfl,⟨rfl,rfl,rfl,rfl⟩,hbr2⟩:=hrel
    obtain ⟨hbw2,q3,q4,q5⟩:=HX.out _ hbr2
    have HBR2:=Zb hbr2
    have HBW2:=Zb hbw2
    clear hbr2 hbw2 q3 q4
    have hS1:=sizeL_le (ts.take p)
    have hS2:=Zhi ts p
    by_cases hlt:p<ts.length
    ·obtain ⟨bl,off,rfl,hbl,hkk⟩:=HTT.out.resolve_left (by intro e;subst e;simp at hlt)
     obtain ⟨⟨p0,p1,p2,p3,p4,p5⟩,hx⟩:∃ t,ts[p]?=some t:=⟨_,List.getElem?_eq_getElem hlt⟩
     obtain ⟨ja,jc,jl,jd,⟨c0,c1,c2,c3,c4,c5⟩,hlx⟩:=(hkk.below (HBW2.out.mono hB) hbl).cells hx
     have hm:=Zgh (List.mem_of_getElem? hx)
     have HC:=Zb (HIH.out _ (List.mem_of_getElem? hx) B _ wr (Nat.le_trans hB HBW2.out.size) hlx (by have:=HTOT.out;have:=HKB.out;omega))
     have hS3:=Zhd (.mk p0 p1 p2 p3 p4 p5)
     have hS4:=sizeL_le (ts.take (p+1))
     have hS5:=Zhi ts (p+1)
     have HQ:Hid (cntL (ts.take (p+1))=cntL (ts.take p)+Zm2 (.mk p0 p1 p2 p3 p4 p5)∧hgtL (ts.take (p+1))=max (hgtL (ts.take p)) (Zlg (.mk p0 p1 p2 p3 p4 p5))∧bytL (ts.take (p+1))=bytL (ts.take p)+Zjv (.mk p0 p1 p2 p3 p4 p5)∧lngL (ts.take (p+1))=max (lngL (ts.take p)) (Zlf (.mk p0 p1 p2 p3 p4 p5))):=by
      rw [Zhz hx]
      have g:=Zhd (.mk p0 p1 p2 p3 p4 p5)
      refine ⟨?_,?_,?_,?_⟩
      ·rw [Zhe];simp [cntL]
      ·rw [Zhh];simp only [hgtL];omega
      ·rw [Zhf];simp [bytL]
      ·rw [Zhg];simp only [lngL];omega
     clear hkk hlx hx
     generalize Zm2 (.mk p0 p1 p2 p3 p4 p5)=t1 at *
     generalize Zlg (.mk p0 p1 p2 p3 p4 p5)=t2 at *
     generalize Zjv (.mk p0 p1 p2 p3 p4 p5)=t3 at *
     generalize Zlf (.mk p0 p1 p2 p3 p4 p5)=t4 at *
     generalize (Zk.mk p0 p1 p2 p3 p4 p5).total=t5 at *
     have hA:cntL (ts.take p)+t1≤2000000∧bytL (ts.take p)+t3+(s.size:Int)+Zx ks≤2000000:=by have:=HTOT.out;have:=HKB.out;have:=HQ.out;omega
     have hB0:=HKB.out
     have hN:0≤cntL (ts.take p)∧0≤bytL (ts.take p)∧0≤t1∧0≤t3:=by omega
     clear hS1 hS2 hS3 hS4 hS5 hm
     generalize cntL (ts.take p)=m1 at *
     generalize hgtL (ts.take p)=m2 at *
     generalize bytL (ts.take p)=m3 at *
     generalize lngL (ts.take p)=m4 at *
     generalize Zx ks=kb at *
     go_wp2_with fail
     refine HC.out.mono ?_;rintro e w' ⟨rfl,hk2⟩
     have HB2:=Zb (HBR2.out.trans (hk2.mono HBR2.out.size))
     clear hk2 c0 c1 c2 c3 c4 c5 q5 HC
     go_wp2_with fail
     go_roundw
     case rel =>
      refine ⟨p+1,by omega,by go_num,⟨?_,?_,?_,?_⟩,HB2.out⟩
      ·rw [HQ.out.1,← Int.add_assoc]
      ·rw [HQ.out.2.1]
      ·rw [HQ.out.2.2.1,← Int.add_assoc]
      ·rw [HQ.out.2.2.2]
     case measure=>simp [intOf];omega
    ·have HT:Hid (ts.take p=ts):=List.take_of_length_le (by omega)
     rw [HT.out] at hS1 ⊢
     have hh:0≤hgtL ts∧hgtL ts≤2000000:=by have:=HTOT.out;have:=HKB.out;omega
     clear hS1 hS2 HT
     obtain ⟨e1,e2,e3,e4⟩:=HRES.out
     have HE:=Zb (And.intro e1 (And.intro e2 (And.intro e3 e4)))
     clear e1 e2 e3 e4 HRES
     go_wp2_with fail
     (try simp only [Exit.inBlock,Exit.then]);refine bodyPost_ret (Zjw rfl _ _ _) rfl ?_
     refine ⟨?_,HBW2.out⟩
     rw [HE.out.1,HE.out.2.1,HE.out.2.2.1,HE.out.2.2.2]
     rfl
end
section
open Go.RowKit Go.WideShapes Go.Shelf
set_option linter.all false
theorem Zqr  : (⟨#[]⟩:ByteArray).toList.isEmpty=true:=by
 rw [show (⟨#[]⟩:ByteArray)=ByteArray.empty from rfl];simp
theorem Ztk (l:List (Int × Zk)):∀ a:Int,a≤1048576→(Zcr a l=true↔((∃ x ∈ l,64<x.1)∨(∃ x ∈ l,65536<x.2.kids.length)∨1048576<a+Ja l)):=by
 induction l with
 | nil=>intro a h;simp [Zcr,Ja];omega
 | cons x r ih =>
  intro a h
  obtain ⟨d,t⟩:=x
  have hb:Ja ((d,t)::r)=t.bytes+Ja r:=by simp [Ja]
  have hn:=Zc6 r
  rw [hb]
  simp only [Zcr,Bool.or_eq_true,decide_eq_true_eq,List.mem_cons,exists_eq_or_imp]
  by_cases g:1048576<a+t.bytes
  ·have:1048576<a+(t.bytes+Ja r):=by omega
   simp [g,this]
  ·rw [ih (a+t.bytes) (by omega)]
   have e:a+t.bytes+Ja r=a+(t.bytes+Ja r):=by omega
   rw [e]
   simp only [g,or_false]
   constructor
   ·rintro ((h | h) | h | h | h)
    ·exact .inl (.inl h)
    ·exact .inr (.inl (.inl h))
    ·exact .inl (.inr h)
    ·exact .inr (.inl (.inr h))
    ·exact .inr (.inr h)
   ·rintro ((h | h) | (h | h) | h)
    ·exact .inl (.inl h)
    ·exact .inr (.inl h)
    ·exact .inl (.inr h)
    ·exact .inr (.inr (.inl h))
    ·exact .inr (.inr (.inr h))
mutual
theorem Zlw  : ∀ (T:Zk) (d:Int),Ja (T.pre d)=Zjv T
 | .mk k b n s ks ts,d=>by
  have h:=preL_bytes ts (d+1)
  have e:Ja ((d,Zk.mk k b n s ks ts)::Zk.preL (d+1) ts)=Ja [(d,Zk.mk k b n s ks ts)]+Ja (Zk.preL (d+1) ts):=Zbi [_] _
  rw [Zk.pre,e,Ze7,h,Zjv]
theorem preL_bytes  : ∀ (l:List Zk) (d:Int),Ja (Zk.preL d l)=bytL l
 | [],d=>by simp [Zk.preL,Ja,bytL]
 | t::ts,d=>by rw [Zk.preL,Zbi,Zlw t d,preL_bytes ts d,bytL]
end
mutual
theorem Zo8  : ∀ (T:Zk) (d L:Int),(∃ x ∈ T.pre d,L<x.1)↔L<d - 1+Zlg T
 | .mk k b n s ks ts,d,L=>by
  have h:=preL_deep ts (d+1) L
  rw [Zk.pre,Zlg]
  simp only [List.mem_cons,exists_eq_or_imp]
  have e:d+1 - 1=d:=by omega
  rw [e] at h
  have e2:d - 1+(hgtL ts+1)=d+hgtL ts:=by omega
  rw [e2,← h]
  exact Or.comm
theorem preL_deep  : ∀ (l:List Zk) (d L:Int),((∃ x ∈ Zk.preL d l,L<x.1)∨L<d - 1)↔L<d - 1+hgtL l
 | [],d,L=>by simp [Zk.preL,hgtL]
 | t::ts,d,L=>by
  have h1:=Zo8 t d L
  have h2:=preL_deep ts d L
  have h3:=(Zhd t).2.2.2.1
  have h4:=(sizeL_le ts).2.2.2.1.1
  rw [Zk.preL,hgtL]
  simp only [List.mem_append,or_and_right,exists_or,or_assoc]
  rw [h1,h2]
  omega
end
mutual
theorem Zo9  : ∀ (T:Zk) (d:Int),(∃ x ∈ T.pre d,65536<x.2.kids.length)↔65536<Zlf T
 | .mk k b n s ks ts,d=>by
  have h:=preL_long ts (d+1)
  rw [Zk.pre,Zlf]
  simp only [List.mem_cons,exists_eq_or_imp]
  rw [h]
  show (65536<ts.length∨_)↔_
  omega
theorem preL_long  : ∀ (l:List Zk) (d:Int),(∃ x ∈ Zk.preL d l,65536<x.2.kids.length)↔65536<lngL l
 | [],d=>by simp [Zk.preL,lngL]
 | t::ts,d=>by
  have h1:=Zo9 t d
  have h2:=preL_long ts d
  rw [Zk.preL,lngL]
  simp only [List.mem_append,or_and_right,exists_or]
  rw [h1,h2]
  omega
end
theorem Znh {ks:List ByteArray} (h:ks.length=0):Zbq ks=true:=Zfe fun i hi=>by omega
theorem Zni (k:Int) (b:Bool) (n:Int) (s:ByteArray) (ks:List ByteArray) (ts:List Zk):Zz (.mk k b n s ks ts)=(!badB k b n s ks.length ts.length&&Zbq ks):=by
 have hr:=@Znh ks
 simp only [Zz,badB,rbareB,Zal]
 generalize Zbq ks=rz at *
 generalize Lib.validD s.data.toList=vd
 have he:(⟨#[]⟩:ByteArray).toList.isEmpty=true:=Zqr
 rw [he]
 generalize s.toList.isEmpty=se
 generalize ks.length=kl at *
 generalize ts.length=ll
 by_cases h0:k=0
 ·subst h0;cases b<;>cases se<;>cases vd<;>by_cases g1:n=0<;>by_cases g2:kl=0<;>by_cases g3:ll=0<;>simp_all
 by_cases h1:k=1
 ·subst h1;cases b<;>cases se<;>cases vd<;>by_cases g1:n=0<;>by_cases g2:kl=0<;>by_cases g3:ll=0<;>simp_all
 by_cases h2:k=2
 ·subst h2;cases b<;>cases se<;>cases vd<;>by_cases g2:kl=0<;>by_cases g3:ll=0<;>simp_all
 by_cases h6:k=6
 ·subst h6
  by_cases g1:n<0
  ·have e:(min n 0==0)=false:=by rw [beq_eq_false_iff_ne];omega
   cases b<;>cases se<;>cases vd<;>by_cases g2:kl=0<;>by_cases g3:ll=0<;>simp_all
  ·have e:(min n 0==0)=true:=by rw [beq_iff_eq];omega
   cases b<;>cases se<;>cases vd<;>by_cases g2:kl=0<;>by_cases g3:ll=0<;>simp_all
 by_cases h7:k=7
 ·subst h7
  by_cases g1:n<0
  ·have e:(min n 0==0)=false:=by rw [beq_eq_false_iff_ne];omega
   cases b<;>cases se<;>cases vd<;>by_cases g2:kl=0<;>by_cases g3:ll=0<;>simp_all
  ·have e:(min n 0==0)=true:=by rw [beq_iff_eq];omega
   cases b<;>cases se<;>cases vd<;>by_cases g2:kl=0<;>by_cases g3:ll=0<;>simp_all
 by_cases h3:k=3
 ·subst h3;cases b<;>cases se<;>cases vd<;>by_cases g1:n=0<;>by_cases g2:kl=0<;>by_cases g3:ll=0<;>simp_all
 by_cases h5:k=5
 ·subst h5
  by_cases g2:kl=ll
  ·subst g2
   cases b<;>cases se<;>cases vd<;>cases rz<;>by_cases g1:n=0<;>simp_all
  ·have e:((kl:Int) != (ll:Int))=true:=by rw [bne_iff_ne];omega
   have e':(kl==ll)=false:=beq_eq_false_iff_ne.2 g2
   rw [e,e']
   clear e e'
   cases b<;>cases se<;>cases vd<;>cases rz<;>by_cases g1:n=0<;>simp_all
 by_cases h4:k=4
 ·subst h4;cases b<;>cases se<;>cases vd<;>by_cases g1:n=0<;>by_cases g2:kl=0<;>simp_all
 have hk:(decide (k<0)||decide (7<k))=true:=by
  rw [Bool.or_eq_true,decide_eq_true_eq,decide_eq_true_eq]
  omega
 rw [hk]
 simp [h0,h1,h2,h3,h4,h5,h6,h7]
mutual
theorem Ztl  : ∀ (T:Zk) (d:Int),(T.pre d).all (fun x=>Zz x.2)=Zmz T
 | .mk k b n s ks ts,d=>by
  rw [Zk.pre,Zmz,List.all_cons,may_preL ts (d+1),Zni,Bool.and_assoc]
theorem may_preL  : ∀ (l:List Zk) (d:Int),(Zk.preL d l).all (fun x=>Zz x.2)=mayL l
 | [],d=>rfl
 | t::ts,d=>by rw [Zk.preL,mayL,List.all_append,Ztl t d,may_preL ts d]
end
theorem Zw0 (T:Zk):checkN T=if Zmz T=true then (if 64<Zlg T∨1048576<Zjv T∨65536<Zlf T then 3 else 0) else 110:=by
 unfold checkN
 rw [Ztl]
 have h:=Ztk (T.pre 1) 0 (by omega)
 rw [Zo8,Zo9,Zlw] at h
 have e:(Zcr 0 (T.pre 1)=true)=(64<Zlg T∨1048576<Zjv T∨65536<Zlf T):=propext (by rw [h];omega)
 simp only [e]
set_option maxRecDepth 100000 in
set_option maxHeartbeats 1000000 in
theorem Zqs (T:Zk) (B:Nat) (v:Value) (w:World) (hB:B≤w.heap.size) (hv:Zaw B w v T) (hS:Zj6 T) (htot:T.total≤2000000) :
  Calls Tryz.prog 51 #[v] w fun e w'=>e=.returned (.int .i64 (checkN T))∧Below w.heap.size w w':=by
 have HM:Hid (∀ W,Below w.heap.size w W→Calls Tryz.prog 110 #[v] W fun e w'=>e=.returned (.bool (Zmz T))∧Below W.heap.size W w'):=fun W hb =>
  Zzx T B v W (Nat.le_trans hB hb.size) (hv.below (hb.mono hB)) hS
 have HS:Hid (∀ W,Below w.heap.size w W→Calls Tryz.prog 69 #[v] W fun e w'=>e=.returned (.tuple #[.int .i64 (Zm2 T),.int .i64 (Zlg T),.int .i64 (Zjv T),.int .i64 (Zlf T)])∧Below W.heap.size W w'):=fun W hb =>
  Zhj T B v W (Nat.le_trans hB hb.size) (hv.below (hb.mono hB)) htot
 have HC:=Zb (Zw0 T)
 generalize Zmz T=m at *
 generalize Zm2 T=t1 at *
 generalize Zlg T=t2 at *
 generalize Zjv T=t3 at *
 generalize Zlf T=t4 at *
 obtain ⟨k,x,n,s,ks,ts⟩:=T
 simp only [Zaw] at hv
 obtain ⟨ka,kc,la,lc,rfl,-⟩:=hv
 have HB0:=Zb ((Below.refl w.heap.size w).alloc (Nat.le_refl _) (.cells #[.int .i64 k,.bool x,.int .i64 n,.string s,.slice ka ks.length kc,.slice la ts.length lc] 60))
 generalize checkN (.mk k x n s ks ts)=res at *
 clear hB hS htot
 go_enter Tryz.func51,Tryz.ntmps51
 go_wp2_with fail
 refine (HM.out _ HB0.out).mono ?_
 rintro e w1 ⟨rfl,h1⟩
 obtain ⟨hb1,hc⟩:=Zhw h1
 have c0:=hc 0 _ rfl
 have c1:=hc 1 _ rfl
 have c2:=hc 2 _ rfl
 have c3:=hc 3 _ rfl
 have c4:=hc 4 _ rfl
 have c5:=hc 5 _ rfl
 have HB1:=Zb hb1
 clear hc h1 hb1 HB0 HM
 cases m
 ·go_wp2_with fail
  go_ret
  exact ⟨by rw [HC.out];rfl,HB1.out⟩
 ·go_wp2_with fail
  refine (HS.out _ HB1.out).mono ?_
  rintro e w2 ⟨rfl,h2⟩
  have HB2:=Zb (Za HB1.out h2)
  clear h2 c0 c1 c2 c3 c4 c5 HS HB1
  by_cases g1:64<t2
  ·have HR:Hid (res=3):=HC.out.trans (by simp [g1])
   have d1:decide (64<t2)=true:=decide_eq_true g1
   clear HC g1
   go_wp2_with fail
   go_ret
   exact ⟨by rw [HR.out];rfl,HB2.out⟩
  ·have d1:decide (64<t2)=false:=decide_eq_false g1
   by_cases g2:1048576<t3
   ·have HR:Hid (res=3):=HC.out.trans (by simp [g2])
    have d2:decide (1048576<t3)=true:=decide_eq_true g2
    clear HC g1 g2
    go_wp2_with fail
    go_ret
    exact ⟨by rw [HR.out];rfl,HB2.out⟩
   ·have d2:decide (1048576<t3)=false:=decide_eq_false g2
    by_cases g3:65536<t4
    ·have HR:Hid (res=3):=HC.out.trans (by simp [g3])
     have d3:decide (65536<t4)=true:=decide_eq_true g3
     clear HC g1 g2 g3
     go_wp2_with fail
     go_ret
     exact ⟨by rw [HR.out];rfl,HB2.out⟩
    ·have HR:Hid (res=0):=HC.out.trans (by simp [g1,g2,g3])
     have d3:decide (65536<t4)=false:=decide_eq_false g3
     clear HC g1 g2 g3
     go_wp2_with fail
     go_ret
     exact ⟨by rw [HR.out];rfl,HB2.out⟩
end
section
open Go.RowKit Go.Shelf
set_option linter.all false
attribute [local go_sem] Oper.semAt_some
set_option maxRecDepth 100000 in
set_option maxHeartbeats 2000000 in
theorem Zog (T:Zk) (B:Nat) (v:Value) (w:World) (hB:B≤w.heap.size) (hv:Zaw B w v T):Calls Tryz.prog 149 #[v] w fun e w'=>e=.returned (.bool (Zeb T))∧Below w.heap.size w w':=by
 obtain ⟨k,x,n,s,ks,ts⟩:=T
 simp only [Zaw] at hv
 obtain ⟨ka,kc,la,lc,rfl,⟨hs1,hs2,hs3,hs4,hs5⟩,hk,ht⟩:=hv
 unfold maxLen at hs5
 obtain ⟨W1,hW1⟩:∃ W1,w.alloc (.cells #[.int .i64 k,.bool x,.int .i64 n,.string s,.slice ka ks.length kc,.slice la ts.length lc] 60)=W1:=⟨_,rfl⟩
 have hb1:Below w.heap.size w W1:=hW1▸(Below.refl _ _).alloc (Nat.le_refl _) _
 have hq1:W1.heap[w.heap.size]?=some (.cells #[.int .i64 k,.bool x,.int .i64 n,.string s,.slice ka ks.length kc,.slice la ts.length lc] 60 (0,0)):=hW1▸World.alloc_heap_new _ _
 have hlt1:w.heap.size<W1.heap.size:=(Array.getElem?_eq_some_iff.1 hq1).1
 have HX:Hid (∀ W,Below W1.heap.size W1 W→Below w.heap.size w W∧W.cell? ⟨w.heap.size,0,none⟩=some (.int .i64 k)∧W.cell? ⟨w.heap.size,5,none⟩=some (.slice la ts.length lc)):=fun W hb=>by
  have e:=(hb.block _ hlt1).trans hq1
  exact ⟨hb1.trans (hb.mono (by omega)),by unfold World.cell?;simp only [e];rfl,by unfold World.cell?;simp only [e];rfl⟩
 have HT:Hid (ts=[]∨∃ bl off,la=some ⟨bl,off,none⟩∧bl<B∧KidsLie B w bl off ts):=ht
 have HR:Hid (Zeb (.mk k x n s ks ts)=(Zui ts&&(if k=4 then (if ts=[] then true else Zah (Zbt ts)) else Zah k))):=rfl
 have HW1:=Zb hW1
 clear hW1 hq1 ht hk
 go_enter Tryz.func149,Tryz.ntmps149
 go_wp2_with fail
 rw [HW1.out]
 clear HW1
 go_loopw [3] (fun i wr=>∃ j:Nat,j≤ts.length∧i=.int .i64 j∧Below W1.heap.size W1 wr∧(ts.take j).all (fun t=>t.kind==Zbt ts)=true) (fun i _=>ts.length - (intOf i).toNat)
 case atStart=>exact ⟨0,Nat.zero_le _,rfl,Below.refl _ _,rfl⟩
 case round =>
  obtain ⟨j,hj,rfl,hbr,hal⟩:=hrel
  have HBR:=Zb hbr
  have HAL:=Zb hal
  obtain ⟨hbw,q0,q5⟩:=HX.out wr hbr
  have HBW:=Zb hbw
  clear hbr hbw hal
  by_cases hlt:j<ts.length
  ·obtain ⟨bl,off,rfl,hbl,hkk⟩:=HT.out.resolve_left (by intro e;subst e;simp at hlt)
   obtain ⟨⟨p0,p1,p2,p3,p4,p5⟩,hx⟩:∃ t,ts[j]?=some t:=⟨_,List.getElem?_eq_getElem hlt⟩
   have hkw:=hkk.below (HBW.out.mono hB) hbl
   obtain ⟨_,_,_,_,⟨c0,_⟩,_⟩:=hkw.cells hx
   have d0:=hkw.first (by omega)
   have HX2:=Zb hx
   obtain ⟨fk,hfk⟩:∃ f,Zbt ts=f:=⟨_,rfl⟩
   rw [hfk] at d0
   have HFK:=Zb hfk
   have hl0:(0:Int)<ts.length:=by omega
   clear hkk hkw hx hfk
   go_wp2_with fail
   go_quiet (fail)
   by_cases e:p0=fk
   ·have e':(p0 != fk)=false:=by simp [e]
    go_wp2_with fail
    go_roundw
    case rel=>exact ⟨j+1,by omega,by go_num,below_drewN HBR.out _,Zf0 HAL.out HX2.out (by rw [HFK.out];simp [Zk.kind,e])⟩
    case measure=>simp [intOf];omega
   ·have e':(p0 != fk)=true:=by simp [e]
    have HRF:Hid (Zeb (.mk k x n s ks ts)=false):=by
     show _=_
     rw [HR.out]
     have:Zui ts=false:=Zif HX2.out (by rw [HFK.out];simp [Zk.kind,e])
     rw [this];rfl
    go_wp2_with fail
    go_ret
    exact ⟨by rw [HRF.out];rfl,below_drewN HBW.out _⟩
  ·have HSM:Hid (Zui ts=true):=by
    have:=HAL.out
    rw [List.take_of_length_le (by omega)] at this
    exact this
   have HR2:Hid (Zeb (.mk k x n s ks ts)=(if k=4 then (if ts=[] then true else Zah (Zbt ts)) else Zah k)):=by
    show _=_;rw [HR.out,HSM.out,Bool.true_and]
   clear HAL HR HSM
   by_cases k4:k=4
   ·have k4':(k==4)=true:=by simp [k4]
    by_cases hl0:0<ts.length
    ·have hl0':(0:Int)<ts.length:=by omega
     obtain ⟨bl,off,rfl,hbl,hkk⟩:=HT.out.resolve_left (by intro e;subst e;simp at hl0)
     have d0:=(hkk.below (HBW.out.mono hB) hbl).first hl0
     have HR3:Hid (Zeb (.mk k x n s ks ts)=Zah (Zbt ts)):=by
      show _=_;rw [HR2.out,if_pos k4,if_neg (by intro e;subst e;simp at hl0)]
     obtain ⟨fk,hfk⟩:∃ f,Zbt ts=f:=⟨_,rfl⟩
     rw [hfk] at d0
     have HFK:=Zb hfk
     clear hkk hfk
     go_wp2_with fail
     all_goals
      go_ret
      refine ⟨?_,HBW.out⟩
      rw [HR3.out,HFK.out]
      simp_all [Zah]
    ·have hl0':¬ (0:Int)<ts.length:=by omega
     have HR3:Hid (Zeb (.mk k x n s ks ts)=true):=by
      show _=_;rw [HR2.out,if_pos k4,if_pos (List.eq_nil_of_length_eq_zero (by omega))]
     clear k4
     go_wp2_with fail
     go_ret
     exact ⟨by rw [HR3.out];rfl,HBW.out⟩
   ·have k4':(k==4)=false:=by simp [k4]
    have HR3:Hid (Zeb (.mk k x n s ks ts)=Zah k):=by
     show _=_;rw [HR2.out,if_neg k4]
    go_wp2_with fail
    all_goals
     go_ret
     refine ⟨?_,HBW.out⟩
     rw [HR3.out]
     simp_all [Zah]
end
section
open Go.RowKit Go.Shelf
set_option linter.all false
def Zcu (T:Zk):Bool:=decide (checkN T=0)&&Zeb T
set_option maxRecDepth 100000 in
set_option maxHeartbeats 4000000 in
theorem Zkr (T:Zk) (B:Nat) (v:Value) (w:World) (hB:B≤w.heap.size) (hv:Zaw B w v T) (hS:Zj6 T) (htot:T.total≤2000000):Calls Tryz.prog 103 #[v] w fun e w'=>e=.returned (.bool (Zcu T))∧Below w.heap.size w w':=by
 have HV:=Zb hv
 obtain ⟨cn,hcn⟩:∃ c,checkN T=c:=⟨_,rfl⟩
 obtain ⟨sb,hsb⟩:∃ c,Zeb T=c:=⟨_,rfl⟩
 have HCK0:Hid (∀ W,Below w.heap.size w W→Calls Tryz.prog 51 #[v] W fun e w'=>e=.returned (.int .i64 cn)∧Below W.heap.size W w'):=fun W hb=>by
  rw [← hcn];exact Zqs T B v W (Nat.le_trans hB hb.size) (HV.out.below (hb.mono hB)) hS htot
 have HST0:Hid (∀ W,Below w.heap.size w W→Calls Tryz.prog 149 #[v] W fun e w'=>e=.returned (.bool sb)∧Below W.heap.size W w'):=fun W hb=>by
  rw [← hsb];exact Zog T B v W (Nat.le_trans hB hb.size) (HV.out.below (hb.mono hB))
 have HR:Hid (Zcu T=(decide (cn=0)&&sb)):=by
  show _=_
  unfold Zcu
  rw [hcn,hsb]
 obtain ⟨res,hres⟩:∃ r,Zcu T=r:=⟨_,rfl⟩
 rw [hres] at HR ⊢
 clear hcn hsb hS htot HV hres
 obtain ⟨k,x,n,s,ks,ts⟩:=T
 simp only [Zaw] at hv
 obtain ⟨ka,kc,la,lc,rfl,⟨hs1,hs2,hs3,hs4,hs5⟩,_,_⟩:=hv
 unfold maxLen at hs5
 obtain ⟨W1,hW1⟩:∃ W1,w.alloc (.cells #[.int .i64 k,.bool x,.int .i64 n,.string s,.slice ka ks.length kc,.slice la ts.length lc] 60)=W1:=⟨_,rfl⟩
 have hb1:Below w.heap.size w W1:=hW1▸(Below.refl _ _).alloc (Nat.le_refl _) _
 have hq1:W1.heap[w.heap.size]?=some (.cells #[.int .i64 k,.bool x,.int .i64 n,.string s,.slice ka ks.length kc,.slice la ts.length lc] 60 (0,0)):=hW1▸World.alloc_heap_new _ _
 have hlt1:w.heap.size<W1.heap.size:=(Array.getElem?_eq_some_iff.1 hq1).1
 have HX:Hid (∀ W,Below W1.heap.size W1 W→Below w.heap.size w W∧W.cell? ⟨w.heap.size,0,none⟩=some (.int .i64 k)∧W.cell? ⟨w.heap.size,1,none⟩=some (.bool x)∧W.cell? ⟨w.heap.size,2,none⟩=some (.int .i64 n)∧W.cell? ⟨w.heap.size,3,none⟩=some (.string s)∧W.cell? ⟨w.heap.size,4,none⟩=some (.slice ka ks.length kc)∧W.cell? ⟨w.heap.size,5,none⟩=some (.slice la ts.length lc)):=fun W hb=>by
  have e:=(hb.block _ hlt1).trans hq1
  refine ⟨hb1.trans (hb.mono (by omega)),?_,?_,?_,?_,?_,?_⟩<;>(unfold World.cell?;simp only [e];rfl)
 have HCK:=Zb (HCK0.out W1 hb1)
 have HW1:=Zb hW1
 have HH:=Zb hlt1
 clear hW1 hq1 HCK0
 go_enter Tryz.func103,Tryz.ntmps103
 go_wp2_with fail
 rw [HW1.out]
 refine HCK.out.mono ?_
 rintro e w2 ⟨rfl,hb2⟩
 obtain ⟨hbw2,q0,q1,q2,q3,q4,q5⟩:=HX.out w2 hb2
 have HBW2:=Zb hbw2
 have HST:=Zb (HST0.out w2 hbw2)
 clear hb2 hbw2 HW1 HCK
 by_cases hc:cn=0
 ·have hc':(cn==0)=true:=by simp [hc]
  have HR2:Hid (res=sb):=by
   show _=_
   rw [HR.out,hc];rfl
  clear hc
  go_wp2_with fail
  refine HST.out.mono ?_
  rintro e w3 ⟨rfl,hb3⟩
  have HB3:=Zb hb3
  clear hb3
  go_wp2_with fail
  go_ret
  exact ⟨by rw [HR2.out];rfl,HBW2.out.trans (HB3.out.mono HBW2.out.size)⟩
 ·have hc':(cn==0)=false:=by simp [hc]
  have HR2:Hid (res=false):=by
   show _=_
   rw [HR.out,decide_eq_false hc];rfl
  clear hc
  go_wp2_with fail
  go_ret
  exact ⟨by rw [HR2.out];rfl,HBW2.out⟩
end
