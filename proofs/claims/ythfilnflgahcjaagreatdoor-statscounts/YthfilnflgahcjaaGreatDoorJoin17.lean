/- What a value holds, and what may be: the sense of Check. How great a value is, as far as some. -/
import Derived.Test.YthfilnflgahcjaaGreatDoorJoin16
namespace Go.Proofs.YthfilnflgahcjaaGreatDoor
open Go.RowKit Go.WideShapes Go.Shelf
set_option linter.all false
def rbareB (k:Int) (b:Bool) (n:Int) (s:ByteArray) (c ll:Nat):Bool :=
 ((k==1)||!b)&&(((k==2)||((k==6)||((k==7)||(n==0))))&&(((k==3)||s.toList.isEmpty)&&(((k==5)||decide (c=0))&&((k==4)||((k==5)||decide (ll=0))))))
mutual
def Zd.total:Zd->Int
 | .mk k b n s ks ts=>1+s.size+ks.length+Zv ks+Zd.totalL ts
def Zd.totalL:List Zd->Int
 | []=>0
 | t::ts=>t.total+Zd.totalL ts
end
theorem Ze6 (k:ByteArray) (r:List ByteArray):Zv (k::r)=k.size+Zv r:=by simp [Zv]
mutual
theorem Zdn:∀ (T:Zd),1<=T.total
 | .mk k b n s ks ts=>by
  have:=totalL_len ts
  have:=Zu ks
  simp only [Zd.total];omega
theorem totalL_len:∀ (l:List Zd),(l.length:Int)<=Zd.totalL l
 | []=>by simp [Zd.totalL]
 | t::ts=>by
  have h:=Zdn t
  have g:=totalL_len ts
  simp only [Zd.totalL,List.length_cons];omega
end
theorem Zmu:∀ {ts:List Zd} {t:Zd},t ∈ ts->t.total<=Zd.totalL ts
 | u::us,t,h=>by
  have f:=totalL_len us
  have j:=Zdn u
  rcases List.mem_cons.1 h with rfl | h
  ·simp only [Zd.totalL];omega
  ·have:=Zmu h;simp only [Zd.totalL];omega
def badB (k:Int) (b:Bool) (n:Int) (s:ByteArray) (c ll:Nat):Bool :=
 ((((decide (k<0)||decide (7<k))||!rbareB k b n s c ll)||(((k==6)||(k==7))&&decide (n<0)))||!Lib.validD s.data.toList)||((k==5)&&((c:Int) != (ll:Int)))
mutual
def Zi7:Zd->Bool
 | .mk k b n s ks ts=>!badB k b n s ks.length ts.length&&(Zcq ks&&mayL ts)
def mayL:List Zd->Bool
 | []=>true
 | t::ts=>Zi7 t&&mayL ts
end
theorem Zn6:∀ (ts:List Zd),mayL ts=ts.all Zi7
 | []=>rfl
 | t::ts=>by rw [mayL,Zn6 ts];rfl
mutual
def Jhd:Zd->Int
 | .mk k b n s ks ts=>1+cntL ts
def cntL:List Zd->Int
 | []=>0
 | t::ts=>Jhd t+cntL ts
end
mutual
def Jck:Zd->Int
 | .mk k b n s ks ts=>s.size+Zv ks+bytL ts
def bytL:List Zd->Int
 | []=>0
 | t::ts=>Jck t+bytL ts
end
mutual
def Jcl:Zd->Int
 | .mk k b n s ks ts=>max (ts.length:Int) (lngL ts)
def lngL:List Zd->Int
 | []=>0
 | t::ts=>max (Jcl t) (lngL ts)
end
mutual
def Jcm:Zd->Int
 | .mk k b n s ks ts=>hgtL ts+1
def hgtL:List Zd->Int
 | []=>0
 | t::ts=>max (Jcm t) (hgtL ts)
end
mutual
theorem Zrp:∀ (T:Zd),(1<=Jhd T/\Jhd T<=T.total)/\(0<=Jck T/\Jck T<=T.total)/\(0<=Jcl T/\Jcl T<=T.total)/\(1<=Jcm T/\Jcm T<=T.total)
 | .mk k b n s ks ts=>by
  have h:=sizeL_le ts
  have hk:=Zu ks
  simp only [Jhd,Jck,Jcl,Jcm,Zd.total]
  omega
theorem sizeL_le:∀ (l:List Zd),(0<=cntL l/\cntL l<=Zd.totalL l)/\(0<=bytL l/\bytL l<=Zd.totalL l)/\(0<=lngL l/\lngL l<=Zd.totalL l)/\(0<=hgtL l/\hgtL l<=Zd.totalL l)/\(l.length:Int)<=Zd.totalL l
 | []=>by simp [cntL,bytL,lngL,hgtL,Zd.totalL]
 | t::ts=>by
  have h:=Zrp t
  have g:=sizeL_le ts
  simp only [cntL,bytL,lngL,hgtL,Zd.totalL,List.length_cons]
  omega
end
theorem Zn7 (l:List Zd):0<=Zd.totalL l:=by have:=(sizeL_le l).1;omega
theorem Zva:(⟨#[]⟩:ByteArray).toList.isEmpty=true:=by
 rw [show (⟨#[]⟩:ByteArray)=ByteArray.empty from rfl];simp
theorem Zxe (l:List (Int × Zd)):∀ a:Int,a<=1048576->(Zea a l=true↔((∃ x ∈ l,64<x.1)\/(∃ x ∈ l,65536<x.2.kids.length)\/1048576<a+bytesOf l)):=by
 induction l with
 | nil=>intro a h;simp [Zea,bytesOf];omega
 | cons x r ih =>
  intro a h
  obtain ⟨d,t⟩:=x
  have hb:bytesOf ((d,t)::r)=t.bytes+bytesOf r:=by simp [bytesOf]
  have hn:=Zeb r
  rw [hb]
  simp only [Zea,Bool.or_eq_true,decide_eq_true_eq,List.mem_cons,exists_eq_or_imp]
  by_cases g:1048576<a+t.bytes
  ·have:1048576<a+(t.bytes+bytesOf r):=by omega
   simp [g,this]
  ·rw [ih (a+t.bytes) (by omega)]
   have e:a+t.bytes+bytesOf r=a+(t.bytes+bytesOf r):=by omega
   rw [e]
   simp only [g,or_false]
   constructor
   ·rintro ((h | h) | h | h | h)
    ·exact .inl (.inl h)
    ·exact .inr (.inl (.inl h))
    ·exact .inl (.inr h)
    ·exact .inr (.inl (.inr h))
    ·exact .inr (.inr h)
   ·rintro ((h | h) | (h | h) | h)
    ·exact .inl (.inl h)
    ·exact .inr (.inl h)
    ·exact .inl (.inr h)
    ·exact .inr (.inr (.inl h))
    ·exact .inr (.inr (.inr h))
mutual
theorem Zk9:∀ (T:Zd) (d:Int),bytesOf (T.pre d)=Jck T
 | .mk k b n s ks ts,d=>by
  have h:=preL_bytes ts (d+1)
  have e:bytesOf ((d,Zd.mk k b n s ks ts)::Zd.preL (d+1) ts)=bytesOf [(d,Zd.mk k b n s ks ts)]+bytesOf (Zd.preL (d+1) ts):=Zbx [_] _
  rw [Zd.pre,e,Zhj,h,Jck]
theorem preL_bytes:∀ (l:List Zd) (d:Int),bytesOf (Zd.preL d l)=bytL l
 | [],d=>by simp [Zd.preL,bytesOf,bytL]
 | t::ts,d=>by rw [Zd.preL,Zbx,Zk9 t d,preL_bytes ts d,bytL]
end
mutual
theorem Ztm:∀ (T:Zd) (d L:Int),(∃ x ∈ T.pre d,L<x.1)↔L<d - 1+Jcm T
 | .mk k b n s ks ts,d,L=>by
  have h:=preL_deep ts (d+1) L
  rw [Zd.pre,Jcm]
  simp only [List.mem_cons,exists_eq_or_imp]
  have e:d+1 - 1=d:=by omega
  rw [e] at h
  have e2:d - 1+(hgtL ts+1)=d+hgtL ts:=by omega
  rw [e2,<- h]
  exact Or.comm
theorem preL_deep:∀ (l:List Zd) (d L:Int),((∃ x ∈ Zd.preL d l,L<x.1)\/L<d - 1)↔L<d - 1+hgtL l
 | [],d,L=>by simp [Zd.preL,hgtL]
 | t::ts,d,L=>by
  have f:=Ztm t d L
  have j:=preL_deep ts d L
  have o:=(Zrp t).2.2.2.1
  have m:=(sizeL_le ts).2.2.2.1.1
  rw [Zd.preL,hgtL]
  simp only [List.mem_append,or_and_right,exists_or,or_assoc]
  rw [f,j]
  omega
end
mutual
theorem Ztn:∀ (T:Zd) (d:Int),(∃ x ∈ T.pre d,65536<x.2.kids.length)↔65536<Jcl T
 | .mk k b n s ks ts,d=>by
  have h:=preL_long ts (d+1)
  rw [Zd.pre,Jcl]
  simp only [List.mem_cons,exists_eq_or_imp]
  rw [h]
  show (65536<ts.length\/_)↔_
  omega
theorem preL_long:∀ (l:List Zd) (d:Int),(∃ x ∈ Zd.preL d l,65536<x.2.kids.length)↔65536<lngL l
 | [],d=>by simp [Zd.preL,lngL]
 | t::ts,d=>by
  have f:=Ztn t d
  have j:=preL_long ts d
  rw [Zd.preL,lngL]
  simp only [List.mem_append,or_and_right,exists_or]
  rw [f,j]
  omega
end
theorem Zrq {ks:List ByteArray} (h:ks.length=0):Zcq ks=true:=Zk8 fun i q=>by omega
theorem Zrr (k:Int) (b:Bool) (n:Int) (s:ByteArray) (ks:List ByteArray) (ts:List Zd):Zw (.mk k b n s ks ts)=(!badB k b n s ks.length ts.length&&Zcq ks):=by
 have hr:=@Zrq ks
 simp only [Zw,badB,rbareB,Za7]
 generalize Zcq ks=rz at *
 generalize Lib.validD s.data.toList=vd
 have he:(⟨#[]⟩:ByteArray).toList.isEmpty=true:=Zva
 rw [he]
 generalize s.toList.isEmpty=se
 generalize ks.length=c at *
 generalize ts.length=ll
 by_cases h0:k=0
 ·subst h0;cases b<;>cases se<;>cases vd<;>by_cases g1:n=0<;>by_cases g2:c=0<;>by_cases g3:ll=0<;>simp_all
 by_cases f:k=1
 ·subst f;cases b<;>cases se<;>cases vd<;>by_cases g1:n=0<;>by_cases g2:c=0<;>by_cases g3:ll=0<;>simp_all
 by_cases j:k=2
 ·subst j;cases b<;>cases se<;>cases vd<;>by_cases g2:c=0<;>by_cases g3:ll=0<;>simp_all
 by_cases h6:k=6
 ·subst h6
  by_cases g1:n<0
  ·have e:(min n 0==0)=false:=by rw [beq_eq_false_iff_ne];omega
   cases b<;>cases se<;>cases vd<;>by_cases g2:c=0<;>by_cases g3:ll=0<;>simp_all
  ·have e:(min n 0==0)=true:=by rw [beq_iff_eq];omega
   cases b<;>cases se<;>cases vd<;>by_cases g2:c=0<;>by_cases g3:ll=0<;>simp_all
 by_cases h7:k=7
 ·subst h7
  by_cases g1:n<0
  ·have e:(min n 0==0)=false:=by rw [beq_eq_false_iff_ne];omega
   cases b<;>cases se<;>cases vd<;>by_cases g2:c=0<;>by_cases g3:ll=0<;>simp_all
  ·have e:(min n 0==0)=true:=by rw [beq_iff_eq];omega
   cases b<;>cases se<;>cases vd<;>by_cases g2:c=0<;>by_cases g3:ll=0<;>simp_all
 by_cases o:k=3
 ·subst o;cases b<;>cases se<;>cases vd<;>by_cases g1:n=0<;>by_cases g2:c=0<;>by_cases g3:ll=0<;>simp_all
 by_cases h5:k=5
 ·subst h5
  by_cases g2:c=ll
  ·subst g2
   cases b<;>cases se<;>cases vd<;>cases rz<;>by_cases g1:n=0<;>simp_all
  ·have e:((c:Int) != (ll:Int))=true:=by rw [bne_iff_ne];omega
   have p:(c==ll)=false:=beq_eq_false_iff_ne.2 g2
   rw [e,p]
   clear e p
   cases b<;>cases se<;>cases vd<;>cases rz<;>by_cases g1:n=0<;>simp_all
 by_cases m:k=4
 ·subst m;cases b<;>cases se<;>cases vd<;>by_cases g1:n=0<;>by_cases g2:c=0<;>simp_all
 have hk:(decide (k<0)||decide (7<k))=true:=by
  rw [Bool.or_eq_true,decide_eq_true_eq,decide_eq_true_eq]
  omega
 rw [hk]
 simp [h0,f,j,o,m,h5,h6,h7]
mutual
theorem Zxf:∀ (T:Zd) (d:Int),(T.pre d).all (fun x=>Zw x.2)=Zi7 T
 | .mk k b n s ks ts,d=>by
  rw [Zd.pre,Zi7,List.all_cons,may_preL ts (d+1),Zrr,Bool.and_assoc]
theorem may_preL:∀ (l:List Zd) (d:Int),(Zd.preL d l).all (fun x=>Zw x.2)=mayL l
 | [],d=>rfl
 | t::ts,d=>by rw [Zd.preL,mayL,List.all_append,Zxf t d,may_preL ts d]
end
theorem Zto (T:Zd):Zbg T=if Zi7 T=true then (if 64<Jcm T\/1048576<Jck T\/65536<Jcl T then 3 else 0) else 110:=by
 unfold Zbg
 rw [Zxf]
 have h:=Zxe (T.pre 1) 0 (by omega)
 rw [Ztm,Ztn,Zk9] at h
 have e:(Zea 0 (T.pre 1)=true)=(64<Jcm T\/1048576<Jck T\/65536<Jcl T):=propext (by rw [h];omega)
 simp only [e]
end Go.Proofs.YthfilnflgahcjaaGreatDoor

namespace Go.Proofs.YthfilnflgahcjaaGreatDoor
open Go.RowKit Go.Shelf
set_option linter.all false
theorem Zsz {w w':World} {o:Obj} (h:Below (w.alloc o).heap.size (w.alloc o) w'):Below w.heap.size w w' :=
 ((Below.refl _ _).alloc (Nat.le_refl _) o).trans (h.mono (by simp))
mutual
def Zq6:Zd->Prop
 | .mk k b n s ks ts=>s.size<=140737488355328/\ks.length<=140737488355328/\ts.length<=140737488355328/\(∀ x ∈ ks,x.size<=140737488355328)/\SaneL ts
def SaneL:List Zd->Prop
 | []=>True
 | t::ts=>Zq6 t/\SaneL ts
end
theorem SaneL.mem:∀ {ts:List Zd} {t:Zd},SaneL ts->t ∈ ts->Zq6 t
 | u::us,t,h,hm=>by
  simp only [SaneL] at h
  rcases List.mem_cons.1 hm with rfl | hm
  ·exact h.1
  ·exact SaneL.mem h.2 hm
def Zai (left:Int):Int->List ByteArray->Int
 | n,[]=>n
 | n,k::r=>if n<=left then Zai left (n+1+k.size) r else n
mutual
def Zkb:Zd->Int->Int
 | .mk k b n s ks ts,left=>kidsZ left (Zai left (1+s.size) ks) ts
def kidsZ (left:Int):Int->List Zd->Int
 | n,[]=>n
 | n,t::r=>if n<=left then kidsZ left (n+Zkb t (left - n)) r else n
end
theorem Zfk (left:Int):∀ (ks:List ByteArray) (n:Int),n<=Zai left n ks
 | [],n=>by simp [Zai]
 | k::r,n=>by
  simp only [Zai]
  split
  ·have:=Zfk left r (n+1+k.size);omega
  ·omega
theorem Zou (left:Int):∀ (ks:List ByteArray) (n:Int),Zai left n ks<=left->Zai left n ks=n+ks.length+Zv ks
 | [],n,_=>by simp [Zai,Zv]
 | k::r,n,h=>by
  simp only [Zai] at h |-
  split at h
  ·rename_i hn
   rw [if_pos hn,Zou left r _ h]
   simp [Zv,List.length_cons];omega
  ·omega
theorem Zit (left:Int):∀ (ks:List ByteArray) (n b:Int),(∀ x ∈ ks,(x.size:Int)<=140737488355328)->n<=b->left+140737488355329<=b->Zai left n ks<=b
 | [],n,b,_,h,_=>by simpa [Zai] using h
 | k::r,n,b,hk,h,hb=>by
  simp only [Zai]
  split
  ·have:=hk k (by simp)
   exact Zit left r _ b (fun x q=>hk x (by simp [q])) (by omega) hb
  ·exact h
mutual
theorem Ziu:∀ (T:Zd) (left:Int),1<=Zkb T left
 | .mk k b n s ks ts,left=>by
  simp only [Zkb]
  have h1:=Zfk left ks (1+s.size)
  have h2:=kidsZ_ge left ts (Zai left (1+s.size) ks)
  omega
theorem kidsZ_ge (left:Int):∀ (ts:List Zd) (n:Int),n<=kidsZ left n ts
 | [],n=>by simp [kidsZ]
 | t::r,n=>by
  simp only [kidsZ]
  split
  ·have h1:=Ziu t (left - n)
   have h2:=kidsZ_ge left r (n+Zkb t (left - n))
   omega
  ·omega
end
mutual
theorem Zy9:∀ (T:Zd) (left:Int),Zkb T left<=left->Zkb T left=T.total
 | .mk k b n s ks ts,left,h=>by
  simp only [Zkb,Zd.total] at h |-
  have h2:=kidsZ_ge left ts (Zai left (1+s.size) ks)
  rw [kidsZ_eq left ts _ h,Zou left ks _ (by omega)]
theorem kidsZ_eq (left:Int):∀ (ts:List Zd) (n:Int),kidsZ left n ts<=left->kidsZ left n ts=n+Zd.totalL ts
 | [],n,_=>by simp [kidsZ,Zd.totalL]
 | t::r,n,h=>by
  simp only [kidsZ] at h |-
  split at h
  ·rename_i hn
   have h2:=kidsZ_ge left r (n+Zkb t (left - n))
   rw [if_pos hn,kidsZ_eq left r _ h,Zy9 t (left - n) (by omega)]
   simp only [Zd.totalL];omega
  ·omega
end
mutual
theorem Zlw:∀ (T:Zd) (left:Int),Zq6 T->0<=left->Zkb T left<=281474976710657+left
 | .mk k b n s ks ts,left,hs,K=>by
  simp only [Zq6] at hs
  obtain ⟨s1,s2,s3,X,s5⟩:=hs
  simp only [Zkb]
  exact kidsZ_le left K ts _ s5 (Zit left ks _ (281474976710657+left) (fun x q=>by have:=X x q;omega) (by omega) (by omega))
theorem kidsZ_le (left:Int) (K:0<=left):∀ (ts:List Zd) (n:Int),SaneL ts->n<=281474976710657+left->kidsZ left n ts<=281474976710657+left
 | [],n,_,h=>by simpa only [kidsZ] using h
 | t::r,n,hs,h=>by
  simp only [SaneL] at hs
  simp only [kidsZ]
  split
  ·have:=Zlw t (left - n) hs.1 (by omega)
   exact kidsZ_le left K r _ hs.2 (by omega)
  ·exact h
end
theorem Zlx:∀ {ts:List Zd},SaneL ts->∀ p,SaneL (ts.take p)
 | _,_,0=>by simp [SaneL]
 | [],_,p+1=>by simp [SaneL]
 | t::ts,h,p+1=>by
  simp only [SaneL,List.take_succ_cons] at h |-
  exact ⟨h.1,Zlx h.2 p⟩
theorem Zjh (left:Int):∀ (a:List ByteArray) (n:Int) (x:ByteArray),Zai left n (a++[x])=if Zai left n a<=left then Zai left n a+1+x.size else Zai left n a
 | [],n,x=>by simp only [List.nil_append,Zai];rfl
 | k::r,n,x=>by
  simp only [List.cons_append,Zai]
  split
  ·exact Zjh left r _ x
  ·rfl
theorem Znd (left:Int):∀ (a:List Zd) (n:Int) (x:Zd),kidsZ left n (a++[x])=if kidsZ left n a<=left then kidsZ left n a+Zkb x (left - kidsZ left n a) else kidsZ left n a
 | [],n,x=>by simp only [List.nil_append,kidsZ];rfl
 | k::r,n,x=>by
  simp only [List.cons_append,kidsZ]
  split
  ·exact Znd left r _ x
  ·rfl
theorem Zne (left:Int) {a:List ByteArray} {n:Int} {j:Nat} (h:¬ Zai left n (a.take j)<=left):Zai left n a=Zai left n (a.take j):=by
 have:∀ (b r:List ByteArray) (n:Int),¬ Zai left n b<=left->Zai left n (b++r)=Zai left n b:=by
  intro b
  induction b with
  | nil=>intro r n h;cases r with
   | nil=>rfl
   | cons x r=>simp only [Zai] at h;simp [Zai,h]
  | cons k b L =>
   intro r n h
   simp only [List.cons_append,Zai] at h |-
   split at h
   ·rename_i hn;rw [if_pos hn,if_pos hn];exact L r _ h
   ·rename_i hn;rw [if_neg hn,if_neg hn]
 have e:=this (a.take j) (a.drop j) n h
 rwa [List.take_append_drop] at e
theorem Znf (left:Int) {a:List Zd} {n:Int} {j:Nat} (h:¬ kidsZ left n (a.take j)<=left):kidsZ left n a=kidsZ left n (a.take j):=by
 have:∀ (b r:List Zd) (n:Int),¬ kidsZ left n b<=left->kidsZ left n (b++r)=kidsZ left n b:=by
  intro b
  induction b with
  | nil=>intro r n h;cases r with
   | nil=>rfl
   | cons x r=>simp only [kidsZ] at h;simp [kidsZ,h]
  | cons k b L =>
   intro r n h
   simp only [List.cons_append,kidsZ] at h |-
   split at h
   ·rename_i hn;rw [if_pos hn,if_pos hn];exact L r _ h
   ·rename_i hn;rw [if_neg hn,if_neg hn]
 have e:=this (a.take j) (a.drop j) n h
 rwa [List.take_append_drop] at e
set_option maxHeartbeats 2000000 in
theorem Jep:∀ (T:Zd) (B:Nat) (v:Value) (left:Int) (w:World),B<=w.heap.size->Zb6 B w v T->Zq6 T->0<=left->left<=100000 ->
  Calls Tryz.prog 82 #[v,.int .i64 left] w fun e w'=>e=.returned (.int .i64 (Zkb T left))/\Below w.heap.size w w':=by
 refine Zd.ind ?_
 intro k x n s ks ts L B v left w hB hv hS K h1
 have b7:=Za hS
 have b6:=Za (Zlw (.mk k x n s ks ts) left hS K)
 simp only [Zq6] at hS
 obtain ⟨s1,s2,s3,X,s5⟩:=hS
 simp only [Zb6] at hv
 obtain ⟨ka,kc,la,lc,rfl,⟨b4,b3,a7,b5,a6⟩,hk,ht⟩:=hv
 have a0:=Za L
 have M:=Za X
 have I:=Za s5
 have C:Hid (Zkb (.mk k x n s ks ts) left=kidsZ left (Zai left (1+s.size) ks) ts):=by show _=_;rw [Zkb]
 clear L X s5
 unfold maxLen at a7 a6
 obtain ⟨l,H⟩:∃ l,w.alloc (.cells #[.int .i64 k,.bool x,.int .i64 n,.string s,.slice ka ks.length kc,.slice la ts.length lc] 88)=l:=⟨_,rfl⟩
 have G:Hid (∀ W,Below l.heap.size l W->Below w.heap.size w W/\W.cell? ⟨w.heap.size,4,none⟩=some (.slice ka ks.length kc)/\W.cell? ⟨w.heap.size,5,none⟩=some (.slice la ts.length lc)):=fun W hb=>by
  rw [<- H] at hb
  refine ⟨Zsz hb,?_,?_⟩
  ·exact (hb.cell (p:=⟨w.heap.size,4,none⟩) (by simp)).trans (Zh _ _ _ _ _ rfl)
  ·exact (hb.cell (p:=⟨w.heap.size,5,none⟩) (by simp)).trans (Zh _ _ _ _ _ rfl)
 have a1:=Za H
 clear H
 go_enter Tryz.func82,Tryz.ntmps82
 go_wp2_with fail
 rw [a1.out]
 go_loop [6,5] (fun i u=>∃ j:Nat,j<=ks.length/\i=.int .i64 j/\u=.int .i64 (Zai left (1+s.size) (ks.take j))) (fun i _=>ks.length - (RowKit.intOf i).toNat)
 case atStart=>exact ⟨0,Nat.zero_le _,rfl,by simp [Zai]⟩
 case round =>
  obtain ⟨j,hj,rfl,rfl⟩:=hrel
  obtain ⟨a4,f4,f5⟩:=G.out l (Below.refl _ _)
  have F:=Zit left (ks.take j) (1+s.size) (281474976710657+left) (fun y hy=>by have:=M.out y (List.mem_of_mem_take hy);omega) (by omega) (by omega)
  have a5:=Zfk left (ks.take j) (1+s.size)
  by_cases hgo:j<ks.length/\Zai left (1+s.size) (ks.take j)<=left
  ·obtain ⟨f,m⟩:=hgo
   obtain ⟨bk,off,rfl,a9,A⟩:=hk.resolve_left (by intro e;subst e;simp at f)
   have hc:=Zar a4 (Nat.le_refl _) (A j f).1
   have b1:=M.out (ks.getD j ⟨#[]⟩) (by rw [List.getD_eq_getElem?_getD,List.getElem?_eq_getElem f];exact List.getElem_mem f)
   have E:Hid (Zai left (1+s.size) (ks.take (j+1))=Zai left (1+s.size) (ks.take j)+1+(ks.getD j ⟨#[]⟩).size):=by
    show _=_
    rw [List.take_add_one,List.getElem?_eq_getElem f,List.getD_eq_getElem?_getD,List.getElem?_eq_getElem f]
    exact (Zjh left _ _ _).trans (if_pos m)
   generalize ks.getD j ⟨#[]⟩=kx at *
   generalize Zai left (1+s.size) (ks.take j)=acc at *
   clear A
   go_wp2_with fail
   go_round
   case rel=>exact ⟨j+1,by omega,by go_num,by rw [E.out]⟩
   case measure=>simp [RowKit.intOf];omega
  ·have R:Hid (Zai left (1+s.size) (ks.take j)=Zai left (1+s.size) ks):=by
    show _=_
    by_cases f:j<ks.length
    ·exact (Zne left (fun h=>hgo ⟨f,h⟩)).symm
    ·rw [List.take_of_length_le (by omega)]
   rw [R.out] at hgo F a5 |-
   generalize Zai left (1+s.size) ks=n1 at *
   have m:ks.length<=j\/¬ n1<=left:=by
    by_cases f:j<ks.length
    ·exact .inr fun h=>hgo ⟨f,h⟩
    ·exact .inl (by omega)
   clear hgo R
   by_cases f:j<ks.length
   ·have a8:¬ n1<=left:=by omega
    clear m
    go_wp2_with fail
    go_loopw [7,5] (fun i u wr=>∃ p:Nat,p<=ts.length/\i=.int .i64 p/\u=.int .i64 (kidsZ left n1 (ts.take p))/\Below l.heap.size l wr) (fun i _ _=>ts.length - (RowKit.intOf i).toNat)
    case atStart=>exact ⟨0,Nat.zero_le _,rfl,by simp [kidsZ],Below.refl _ _⟩
    case round =>
     obtain ⟨p,hp,rfl,rfl,z⟩:=hrel
     obtain ⟨d,g4,g5⟩:=G.out wr z
     clear f4 f5
     have Q:=kidsZ_le left K (ts.take p) n1 (Zlx I.out p) F
     have N:=kidsZ_ge left (ts.take p) n1
     by_cases hgo2:p<ts.length/\kidsZ left n1 (ts.take p)<=left
     ·exfalso;omega
     ·have g:Hid (kidsZ left n1 (ts.take p)=Zkb (.mk k x n s ks ts) left):=by
       show _=_
       rw [C.out]
       by_cases c:p<ts.length
       ·exact (Znf left (fun h=>hgo2 ⟨c,h⟩)).symm
       ·rw [List.take_of_length_le (by omega)]
      generalize kidsZ left n1 (ts.take p)=acc at *
      by_cases c:p<ts.length
      ·have U:¬ acc<=left:=fun h=>hgo2 ⟨c,h⟩
       clear hgo2
       go_wp2_with fail
       go_ret
       exact ⟨by rw [<- g.out];rfl,d⟩
      ·clear hgo2
       go_wp2_with fail
       go_ret
       exact ⟨by rw [<- g.out];rfl,d⟩
   ·clear m
    go_wp2_with fail
    go_loopw [7,5] (fun i u wr=>∃ p:Nat,p<=ts.length/\i=.int .i64 p/\u=.int .i64 (kidsZ left n1 (ts.take p))/\Below l.heap.size l wr) (fun i _ _=>ts.length - (RowKit.intOf i).toNat)
    case atStart=>exact ⟨0,Nat.zero_le _,rfl,by simp [kidsZ],Below.refl _ _⟩
    case round =>
     obtain ⟨p,hp,rfl,rfl,z⟩:=hrel
     obtain ⟨d,g4,g5⟩:=G.out wr z
     clear f4 f5
     have Q:=kidsZ_le left K (ts.take p) n1 (Zlx I.out p) F
     have N:=kidsZ_ge left (ts.take p) n1
     by_cases hgo2:p<ts.length/\kidsZ left n1 (ts.take p)<=left
     ·obtain ⟨c,O⟩:=hgo2
      obtain ⟨bl,off,rfl,a3,P⟩:=ht.resolve_left (by intro e;subst e;simp at c)
      obtain ⟨⟨p0,p1,p2,p3,Y,p5⟩,q⟩:∃ t,ts[p]?=some t:=⟨_,List.getElem?_eq_getElem c⟩
      obtain ⟨ja,jc,jl,jd,⟨c0,c1,c2,c3,c4,c5⟩,S⟩:=(P.below (d.mono hB) a3).cells q
      have D:=I.out.mem (List.mem_of_getElem? q)
      have E:Hid (kidsZ left n1 (ts.take (p+1))=kidsZ left n1 (ts.take p)+Zkb (.mk p0 p1 p2 p3 Y p5) (left - kidsZ left n1 (ts.take p))):=by
       show _=_
       rw [List.take_add_one,q]
       exact (Znd left _ _ _).trans (if_pos O)
      generalize kidsZ left n1 (ts.take p)=acc at *
      have b2:=Zlw (.mk p0 p1 p2 p3 Y p5) (left - acc) D (by omega)
      have b0:=Ziu (.mk p0 p1 p2 p3 Y p5) (left - acc)
      have HC:=Za (a0.out _ (List.mem_of_getElem? q) B _ (left - acc) wr (Nat.le_trans hB d.size) S D (by omega) (by omega))
      generalize Zkb (.mk p0 p1 p2 p3 Y p5) (left - acc)=sm at *
      clear q P S D
      go_wp2_with fail
      refine HC.out.mono ?_
      rintro e w2 ⟨rfl,V⟩
      have a2:Hid (Below l.heap.size l w2):=Zm z V
      clear V c0 c1 c2 c3 c4 c5
      go_wp2_with fail
      go_roundw
      case rel=>exact ⟨p+1,by omega,by go_num,by rw [E.out],a2.out⟩
      case measure=>simp [RowKit.intOf];omega
     ·have g:Hid (kidsZ left n1 (ts.take p)=Zkb (.mk k x n s ks ts) left):=by
       show _=_
       rw [C.out]
       by_cases c:p<ts.length
       ·exact (Znf left (fun h=>hgo2 ⟨c,h⟩)).symm
       ·rw [List.take_of_length_le (by omega)]
      generalize kidsZ left n1 (ts.take p)=acc at *
      by_cases c:p<ts.length
      ·have U:¬ acc<=left:=fun h=>hgo2 ⟨c,h⟩
       clear hgo2
       go_wp2_with fail
       go_ret
       exact ⟨by rw [<- g.out];rfl,d⟩
      ·clear hgo2
       go_wp2_with fail
       go_ret
       exact ⟨by rw [<- g.out];rfl,d⟩
end Go.Proofs.YthfilnflgahcjaaGreatDoor

