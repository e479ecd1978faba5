/- The order of two values, pure: three ways, turned round, one behind another, and none for one value alone. The document's ints, truth, rank and order of texts. The document's rank. The document's order of values in rows. -/
import Derived.Test.YthfilnflgahcjaaGreatDoorJoin31
import Derived.Deep.QuietTactic
import Derived.BigQuiet
import Derived.Deep.RegionWith
import Derived.Test.YthfilnflgahcjaaGreatDoorJoin16
namespace Go.Proofs.YthfilnflgahcjaaGreatDoor
open Go.RowKit Go.Shelf
set_option linter.all false
def cmpI (a b:Int):Int:=if a<b then -1 else if b<a then 1 else 0
theorem Zpg (a:Int):cmpI a a=0:=by unfold cmpI;simp
def Zjl (b:Bool):Int:=if b then 2 else 0
def Zbd (k:Int):Int:=if k=0 then 7 else if k=2 then 6 else if k=1 then 5 else if k=3 then 4 else if k=4 then 3 else if k=7 then 2 else if k=6 then 1 else 0
def agS:List ByteArray->List ByteArray->Int
 | [],[]=>0
 | [],_::_=>-1
 | _::_,[]=>1
 | a::r,b::t=>if Lib.compareBytes a.data.toList b.data.toList=0 then agS r t else Lib.compareBytes a.data.toList b.data.toList
theorem Zz4 {a b:List ByteArray}:∀ {i:Nat},i<a.length->i<b.length->agS (a.drop i) (b.drop i) =
  (if Lib.compareBytes (a.getD i ⟨#[]⟩).data.toList (b.getD i ⟨#[]⟩).data.toList=0 then agS (a.drop (i+1)) (b.drop (i+1)) else Lib.compareBytes (a.getD i ⟨#[]⟩).data.toList (b.getD i ⟨#[]⟩).data.toList):=by
 intro i f o
 rw [List.drop_eq_getElem_cons f,List.drop_eq_getElem_cons o,agS]
 simp [List.getD,f,o]
theorem Zwv {a b:List ByteArray} {i:Nat} (h:i=min a.length b.length):agS (a.drop i) (b.drop i)=cmpI a.length b.length:=by
 unfold cmpI
 by_cases f:a.length<b.length
 ·rw [if_pos (by omega),List.drop_of_length_le (by omega),List.drop_eq_getElem_cons (by omega:i<b.length)];rfl
 ·rw [if_neg (by omega)]
  by_cases o:b.length<a.length
  ·rw [if_pos (by omega),List.drop_of_length_le (l:=b) (by omega),List.drop_eq_getElem_cons (by omega:i<a.length)];rfl
  ·rw [if_neg (by omega),List.drop_of_length_le (by omega),List.drop_of_length_le (by omega)];rfl
mutual
def Ziy:Zd->Zd->Int
 | .mk k b n s ks ts,.mk j C G F p m =>
  if cmpI (Zbd k) (Zbd j)=0 then
   (if k=5 then (if agS ks p=0 then ordL ts m else agS ks p)
     else if k=4 then ordL ts m
     else if k=3 then Lib.compareBytes s.data.toList F.data.toList
     else if k=1 then cmpI (Zjl b) (Zjl C)
     else cmpI n G)
  else cmpI (Zbd k) (Zbd j)
def ordL:List Zd->List Zd->Int
 | [],[]=>0
 | [],_::_=>-1
 | _::_,[]=>1
 | a::r,b::t=>if Ziy a b=0 then ordL r t else Ziy a b
end
theorem Zww {a b:List Zd} {i:Nat} {x y:Zd} (f:a[i]?=some x) (o:b[i]?=some y):ordL (a.drop i) (b.drop i)=(if Ziy x y=0 then ordL (a.drop (i+1)) (b.drop (i+1)) else Ziy x y):=by
 obtain ⟨l1,rfl⟩:=List.getElem?_eq_some_iff.1 f
 obtain ⟨l2,rfl⟩:=List.getElem?_eq_some_iff.1 o
 rw [List.drop_eq_getElem_cons l1,List.drop_eq_getElem_cons l2,ordL]
theorem Ztc {a b:List Zd} {i:Nat} (h:i=min a.length b.length):ordL (a.drop i) (b.drop i)=cmpI a.length b.length:=by
 unfold cmpI
 by_cases f:a.length<b.length
 ·rw [if_pos (by omega),List.drop_of_length_le (by omega),List.drop_eq_getElem_cons (by omega:i<b.length),ordL]
 ·rw [if_neg (by omega)]
  by_cases o:b.length<a.length
  ·rw [if_pos (by omega),List.drop_of_length_le (l:=b) (by omega),List.drop_eq_getElem_cons (by omega:i<a.length),ordL]
  ·rw [if_neg (by omega),List.drop_of_length_le (by omega),List.drop_of_length_le (by omega),ordL]
def Ze3 (B:Nat) (w:World) (la:Option Addr) (ts:List Zd):Prop:=ts=[]\/∃ bl off,la=some ⟨bl,off,none⟩/\bl<B/\KidsLie B w bl off ts
theorem Ze3.below {B:Nat} {w w':World} {la:Option Addr} {ts:List Zd} (h:Ze3 B w la ts) (hb:Below B w w'):Ze3 B w' la ts:=by
 rcases h with h | ⟨bl,off,e,hl,hk⟩
 ·exact .inl h
 ·exact .inr ⟨bl,off,e,hl,hk.below hb hl⟩
set_option maxHeartbeats 2000000 in
def Three (x:Int):Prop:=x=-1\/x=0\/x=1
def Leads (x y z:Int):Prop:=(x=0->z=y)/\(y=0->z=x)/\(x=y->z=x)
theorem lex_three {x y:Int} (f:Three x) (o:x=0->Three y):Three (if x=0 then y else x):=by
 split
 ·exact o ‹_›
 ·exact f
theorem lex_leads {I H D S O Q:Int} (r1:Three I) (r2:Three H) (r3:Three D) (M:Leads I H D) (R:I=0->H=0->Three S/\Three O/\Three Q/\Leads S O Q) :
  Leads (if I=0 then S else I) (if H=0 then O else H) (if D=0 then Q else D):=by
 unfold Three Leads at *
 by_cases f:I=0
 ·by_cases o:H=0
  ·obtain ⟨a,b,c,d⟩:=R f o
   have v:D=0:=by omega
   rw [if_pos f,if_pos o,if_pos v];exact d
  ·have v:D≠0:=by omega
   rw [if_pos f,if_neg o,if_neg v]
   have:D=H:=M.1 f
   refine ⟨fun _=>this,fun e=>absurd e o,fun e=>?_⟩
   omega
 ·by_cases o:H=0
  ·have v:D≠0:=by omega
   rw [if_neg f,if_pos o,if_neg v]
   have:D=I:=M.2.1 o
   refine ⟨fun e=>absurd e f,fun _=>this,fun e=>?_⟩
   omega
  ·rw [if_neg f,if_neg o]
   refine ⟨fun e=>absurd e f,fun e=>absurd e o,fun e=>?_⟩
   have:D=I:=M.2.2 e
   rw [if_neg (by omega)];exact this
theorem cmpI_three (a b:Int):Three (cmpI a b):=by unfold cmpI Three;split<;>(try split)<;>omega
theorem cmpI_turn (a b:Int):cmpI b a=-cmpI a b:=by unfold cmpI;split<;>split<;>(try split)<;>(try split)<;>omega
theorem cmpI_leads (a b c:Int):Leads (cmpI a b) (cmpI b c) (cmpI a c):=by
 unfold cmpI Leads
 rcases Int.lt_trichotomy a b with h | h | h<;>rcases Int.lt_trichotomy b c with g | g | g<;>rcases Int.lt_trichotomy a c with e | e | e<;>simp_all<;>omega
theorem cmpB_eq (a b:UInt8) (r t:List UInt8):Lib.compareBytes (a::r) (b::t)=if cmpI a.toNat b.toNat=0 then Lib.compareBytes r t else cmpI a.toNat b.toNat:=by
 rw [Lib.compareBytes]
 by_cases f:a<b
 ·have h:a.toNat<b.toNat:=f
  have:cmpI a.toNat b.toNat=-1:=by unfold cmpI;rw [if_pos (by omega)]
  rw [if_pos f,this];rfl
 ·have h:¬ a.toNat<b.toNat:=f
  by_cases o:b<a
  ·have g:b.toNat<a.toNat:=o
   have:cmpI a.toNat b.toNat=1:=by unfold cmpI;rw [if_neg (by omega),if_pos (by omega)]
   rw [if_neg f,if_pos o,this];rfl
  ·have g:¬ b.toNat<a.toNat:=o
   have:cmpI a.toNat b.toNat=0:=by unfold cmpI;rw [if_neg (by omega),if_neg (by omega)]
   rw [if_neg f,if_neg o,this];rfl
theorem cmpB_three:∀ (a b:List UInt8),Three (Lib.compareBytes a b)
 | [],[]=>.inr (.inl rfl)
 | [],_::_=>.inl rfl
 | _::_,[]=>.inr (.inr rfl)
 | a::r,b::t=>by rw [cmpB_eq];exact lex_three (cmpI_three _ _) fun _=>cmpB_three r t
theorem cmpB_turn:∀ (a b:List UInt8),Lib.compareBytes b a=-Lib.compareBytes a b
 | [],[]=>rfl
 | [],_::_=>rfl
 | _::_,[]=>rfl
 | a::r,b::t=>by
  rw [cmpB_eq,cmpB_eq,cmpI_turn,cmpB_turn r t]
  by_cases h:cmpI (a.toNat:Int) b.toNat=0
  ·rw [if_pos (by omega),if_pos h]
  ·rw [if_neg (by omega),if_neg h]
theorem cmpB_leads:∀ (a b c:List UInt8),Leads (Lib.compareBytes a b) (Lib.compareBytes b c) (Lib.compareBytes a c)
 | [],[],[]=>⟨fun _=>rfl,fun _=>rfl,fun _=>rfl⟩
 | [],[],_::_=>⟨fun _=>rfl,fun h=>by simp [Lib.compareBytes] at h,fun h=>by simp [Lib.compareBytes] at h⟩
 | [],_::_,[]=>⟨fun h=>by simp [Lib.compareBytes] at h,fun h=>by simp [Lib.compareBytes] at h,fun h=>by simp [Lib.compareBytes] at h⟩
 | _::_,[],[]=>⟨fun h=>by simp [Lib.compareBytes] at h,fun _=>rfl,fun h=>by simp [Lib.compareBytes] at h⟩
 | [],b::t,c::u=>⟨fun h=>by simp [Lib.compareBytes] at h,fun _=>rfl,fun _=>rfl⟩
 | a::r,[],c::u=>⟨fun h=>by simp [Lib.compareBytes] at h,fun h=>by simp [Lib.compareBytes] at h,fun h=>by simp [Lib.compareBytes] at h⟩
 | a::r,b::t,[]=>by
  have v:=cmpB_three (a::r) (b::t)
  refine ⟨fun _=>rfl,fun h=>by simp [Lib.compareBytes] at h,fun h=>?_⟩
  have:Lib.compareBytes (b::t) []=1:=rfl
  rw [this] at h
  rw [h];rfl
 | a::r,b::t,c::u=>by
  rw [cmpB_eq,cmpB_eq,cmpB_eq]
  exact lex_leads (cmpI_three _ _) (cmpI_three _ _) (cmpI_three _ _) (cmpI_leads _ _ _) fun _ _=>⟨cmpB_three r t,cmpB_three t u,cmpB_three r u,cmpB_leads r t u⟩
theorem Ztd:∀ (a b:List ByteArray),agS b a=-agS a b
 | [],[]=>rfl
 | [],_::_=>rfl
 | _::_,[]=>rfl
 | a::r,b::t=>by
  rw [agS,agS,cmpB_turn,Ztd r t]
  by_cases h:Lib.compareBytes a.data.toList b.data.toList=0
  ·rw [if_pos (by omega),if_pos h]
  ·rw [if_neg (by omega),if_neg h]
mutual
def Zeh:Zd->Prop
 | .mk k _ _ _ _ ts=>(0<=k/\k<=7)/\KnownL ts
def KnownL:List Zd->Prop
 | []=>True
 | t::r=>Zeh t/\KnownL r
end
theorem Zz5 {k j:Int} (h:0<=k/\k<=7) (q:0<=j/\j<=7) (e:cmpI (Zbd k) (Zbd j)=0):k=j:=by
 have U:Zbd k=Zbd j:=by unfold cmpI at e;split at e<;>(try split at e)<;>omega
 unfold Zbd at U
 obtain ⟨f,o⟩:=h
 obtain ⟨X,g2⟩:=q
 have hk:k=0\/k=1\/k=2\/k=3\/k=4\/k=5\/k=6\/k=7:=by omega
 have gk:j=0\/j=1\/j=2\/j=3\/j=4\/j=5\/j=6\/j=7:=by omega
 rcases hk with rfl | rfl | rfl | rfl | rfl | rfl | rfl | rfl<;>rcases gk with rfl | rfl | rfl | rfl | rfl | rfl | rfl | rfl<;>first | rfl | (exfalso;revert U;decide)
def inK (k:Int) (b C:Bool) (n G:Int) (s F:ByteArray) (ks p:List ByteArray) (ts m:List Zd):Int :=
 if k=5 then (if agS ks p=0 then ordL ts m else agS ks p) else if k=4 then ordL ts m else if k=3 then Lib.compareBytes s.data.toList F.data.toList else if k=1 then cmpI (Zjl b) (Zjl C) else cmpI n G
theorem Zwx (k:Int) (b:Bool) (n:Int) (s:ByteArray) (ks:List ByteArray) (ts:List Zd) (j:Int) (C:Bool) (G:Int) (F:ByteArray) (p:List ByteArray) (m:List Zd) :
  Ziy (.mk k b n s ks ts) (.mk j C G F p m)=if cmpI (Zbd k) (Zbd j)=0 then inK k b C n G s F ks p ts m else cmpI (Zbd k) (Zbd j):=by rw [Ziy];rfl
theorem Zn0 {x P y V:Int} (h:P=-x) (g:x=0->V=-y):(if P=0 then V else P)=-(if x=0 then y else x):=by
 by_cases e:x=0
 ·rw [if_pos (by omega),if_pos e];exact g e
 ·rw [if_neg (by omega),if_neg e];exact h
mutual
theorem Zph:∀ (a b:Zd),Zeh a->Zeh b->Ziy b a=-Ziy a b
 | .mk k b n s ks ts,.mk j C G F p m,h,q=>by
  simp only [Zeh] at h q
  rw [Zwx,Zwx]
  refine Zn0 (cmpI_turn _ _) fun e=>?_
  have:=Zz5 h.1 q.1 e
  subst this
  unfold inK
  by_cases h5:k=5
  ·rw [if_pos h5,if_pos h5];exact Zn0 (Ztd _ _) fun _=>ordL_turn ts m h.2 q.2
  rw [if_neg h5,if_neg h5]
  by_cases L:k=4
  ·rw [if_pos L,if_pos L];exact ordL_turn ts m h.2 q.2
  rw [if_neg L,if_neg L]
  by_cases v:k=3
  ·rw [if_pos v,if_pos v];exact cmpB_turn _ _
  rw [if_neg v,if_neg v]
  by_cases f:k=1
  ·rw [if_pos f,if_pos f];exact cmpI_turn _ _
  rw [if_neg f,if_neg f];exact cmpI_turn _ _
theorem ordL_turn:∀ (a b:List Zd),KnownL a->KnownL b->ordL b a=-ordL a b
 | [],[],_,_=>rfl
 | [],_::_,_,_=>rfl
 | _::_,[],_,_=>rfl
 | a::r,b::t,h,q=>by
  simp only [KnownL] at h q
  rw [ordL,ordL]
  exact Zn0 (Zph a b h.1 q.1) fun _=>ordL_turn r t h.2 q.2
end
theorem Zwy (a:Zd) (h:Zeh a):Ziy a a=0:=by have:=Zph a a h h;omega
mutual
theorem Zpi:∀ (T:Zd) (d:Int),(T.pre d).all (fun x=>Zw x.2)=true->Zeh T
 | .mk k b n s ks ts,d,h=>by
  rw [Zd.pre,List.all_cons,Bool.and_eq_true] at h
  rw [Zeh]
  refine ⟨?_,knownL_pre ts (d+1) h.2⟩
  have:=h.1
  unfold Zw at this
  rw [Bool.and_eq_true] at this
  have f:=this.1
  by_cases g:0<=k/\k<=7
  ·exact g
  ·rw [if_neg (by omega),if_neg (by omega),if_neg (by omega),if_neg (by omega),if_neg (by omega),if_neg (by omega),if_neg (by omega)] at f
   cases f
theorem knownL_pre:∀ (l:List Zd) (d:Int),(Zd.preL d l).all (fun x=>Zw x.2)=true->KnownL l
 | [],_,_=>by simp only [KnownL]
 | t::ts,d,h=>by
  rw [Zd.preL,List.all_append,Bool.and_eq_true] at h
  rw [KnownL]
  exact ⟨Zpi t d h.1,knownL_pre ts d h.2⟩
end
theorem Zk0 {T:Zd} (h:Zbg T=0):Zeh T:=by
 unfold Zbg at h
 by_cases g:(T.pre 1).all (fun x=>Zw x.2)=true
 ·exact Zpi T 1 g
 ·rw [if_neg g] at h;omega
open Go.Lib
/-! The order -/
theorem Zrh {a b:Int} (h:cmpI a b=0):a=b:=by
 unfold cmpI at h
 split at h
 ·omega
 ·split at h<;>omega
theorem Zn1:∀ {a b:List UInt8},compareBytes a b=0->a=b
 | [],[],_=>rfl
 | [],_::_,h=>by simp [compareBytes] at h
 | _::_,[],h=>by simp [compareBytes] at h
 | a::r,b::t,h=>by
  rw [compareBytes] at h
  split at h
  ·omega
  ·split at h
   ·omega
   ·rename_i f o
    have e:a=b:=UInt8.toNat_inj.1 (by
     have v:¬ a.toNat<b.toNat:=fun e=>f (UInt8.lt_iff_toNat_lt.2 e)
     have L:¬ b.toNat<a.toNat:=fun e=>o (UInt8.lt_iff_toNat_lt.2 e)
     omega)
    rw [e,Zn1 h]
theorem Zwz:∀ {a b:List ByteArray},agS a b=0->a=b
 | [],[],_=>rfl
 | [],_::_,h=>by simp [agS] at h
 | _::_,[],h=>by simp [agS] at h
 | a::r,b::t,h=>by
  rw [agS] at h
  by_cases f:compareBytes a.data.toList b.data.toList=0
  ·rw [if_pos f] at h
   rw [bytes_inj (Zn1 f),Zwz h]
  ·rw [if_neg f] at h;exact absurd h f
theorem Zte:∀ {a b:List Zd},(∀ t ∈ a,∀ u ∈ b,Ziy t u=0->t=u)->ordL a b=0->a=b
 | [],[],_,_=>rfl
 | [],_::_,_,h=>by simp [ordL] at h
 | _::_,[],_,h=>by simp [ordL] at h
 | a::r,b::t,hh,h=>by
  rw [ordL] at h
  by_cases f:Ziy a b=0
  ·rw [if_pos f] at h
   rw [hh a (by simp) b (by simp) f,Zte (fun x M y R=>hh x (by simp [M]) y (by simp [R])) h]
  ·rw [if_neg f] at h;exact absurd h f
theorem Zz6 {k j:Int} (h:0<=k/\k<=7) (q:0<=j/\j<=7) (e:Zbd k=Zbd j):k=j:=by
 have a:k=0\/k=1\/k=2\/k=3\/k=4\/k=5\/k=6\/k=7:=by omega
 have b:j=0\/j=1\/j=2\/j=3\/j=4\/j=5\/j=6\/j=7:=by omega
 rcases a with rfl | rfl | rfl | rfl | rfl | rfl | rfl | rfl<;>rcases b with rfl | rfl | rfl | rfl | rfl | rfl | rfl | rfl<;>first | rfl | (exact absurd e (by decide))
theorem Jdf:∀ A,Zi7 A=true->∀ B,Zi7 B=true->Ziy A B=0->A=B:=by
 refine Zd.ind ?_
 intro k b n s ks ts ih hA B hB h
 obtain ⟨j,C,G,F,p,m⟩:=B
 obtain ⟨f1,f2,f3,f4,f5,f6,f7,Y⟩:=Zef hA
 obtain ⟨X,g2,g3,g4,g5,g6,g7,g8⟩:=Zef hB
 rw [Ziy] at h
 by_cases hk:cmpI (Zbd k) (Zbd j)=0
 ·rw [if_pos hk] at h
  obtain rfl:=Zz6 f7 g7 (Zrh hk)
  have W:ordL ts m=0->ts=m:=Zte fun t ht u hu=>ih t ht (Y t ht) u (g8 u hu)
  have hb:k≠1->b=C:=fun h=>(f1.resolve_left h).trans (X.resolve_left h).symm
  have N:k≠3->s=F:=fun h=>(f3.resolve_left h).trans (g3.resolve_left h).symm
  have E:k≠5->ks=p:=fun h=>(f4.resolve_left h).trans (g4.resolve_left h).symm
  have K:k≠4->k≠5->ts=m:=fun h q=>((f5.resolve_left h).resolve_left q).trans ((g5.resolve_left h).resolve_left q).symm
  have hn:k=1\/k=3\/k=4\/k=5->n=G:=fun h=>by omega
  by_cases k5:k=5
  ·rw [if_pos k5] at h
   by_cases ha:agS ks p=0
   ·rw [if_pos ha] at h
    rw [W h,Zwz ha,hb (by omega),N (by omega),hn (by omega)]
   ·rw [if_neg ha] at h;exact absurd h ha
  ·rw [if_neg k5] at h
   by_cases k4:k=4
   ·rw [if_pos k4] at h
    rw [W h,E k5,hb (by omega),N (by omega),hn (by omega)]
   ·rw [if_neg k4] at h
    by_cases k3:k=3
    ·rw [if_pos k3] at h
     rw [bytes_inj (Zn1 h),E k5,hb (by omega),K k4 k5,hn (by omega)]
    ·rw [if_neg k3] at h
     by_cases k1:k=1
     ·rw [if_pos k1] at h
      have:b=C:=by
       have:=Zrh h
       cases b<;>cases C<;>first | rfl | (exact absurd this (by decide))
      rw [this,E k5,N k3,K k4 k5,hn (by omega)]
     ·rw [if_neg k1] at h
      rw [Zrh h,E k5,N k3,K k4 k5,hb k1]
 ·rw [if_neg hk] at h;exact absurd h hk
end Go.Proofs.YthfilnflgahcjaaGreatDoor

namespace Go.Proofs.YthfilnflgahcjaaGreatDoor
open Go.RowKit Go.Shelf
set_option linter.all false
theorem Zdd (a b:Int) (w:World):Calls Tryz.prog 158 #[.int .i64 a,.int .i64 b] w fun e w'=>e=.returned (.int .i64 (cmpI a b))/\w'=w:=by
 unfold cmpI
 by_cases f:a<b
 ·rw [if_pos f]
  go_enter Tryz.func158,Tryz.ntmps158
  go_wp2
  go_ret
  exact ⟨rfl,rfl⟩
 ·rw [if_neg f]
  by_cases g:b<a
  ·rw [if_pos g]
   go_enter Tryz.func158,Tryz.ntmps158
   go_wp2
   go_ret
   exact ⟨rfl,rfl⟩
  ·rw [if_neg g]
   go_enter Tryz.func158,Tryz.ntmps158
   go_wp2
   go_ret
   exact ⟨rfl,rfl⟩
theorem Zgt {s:ByteArray} {i:Nat} (h:i<s.size):s.data.toList.drop i=s[i]::s.data.toList.drop (i+1):=by
 have v:i<s.data.toList.length:=by simpa using h
 rw [List.drop_eq_getElem_cons v]
 rfl
theorem Zp2 {s t:ByteArray} {i:Nat} (h:i=s.size\/i=t.size) (f:i<=s.size) (g:i<=t.size) :
  Lib.compareBytes (s.data.toList.drop i) (t.data.toList.drop i)=cmpI s.size t.size:=by
 unfold cmpI
 have l1:s.data.toList.length=s.size:=by simp
 have l2:t.data.toList.length=t.size:=by simp
 by_cases a1:s.size<t.size
 ·rw [if_pos (by omega),List.drop_of_length_le (by omega),List.drop_eq_getElem_cons (by omega:i<t.data.toList.length)];rfl
 ·rw [if_neg (by omega)]
  by_cases a2:t.size<s.size
  ·rw [if_pos (by omega),List.drop_of_length_le (l:=t.data.toList) (by omega),List.drop_eq_getElem_cons (by omega:i<s.data.toList.length)];rfl
  ·rw [if_neg (by omega),List.drop_of_length_le (by omega),List.drop_of_length_le (by omega)];rfl
theorem Jaz {s t:ByteArray} {i:Nat} (f:i<s.size) (g:i<t.size) (h:s[i].toNat=t[i].toNat) :
  Lib.compareBytes (s.data.toList.drop i) (t.data.toList.drop i)=Lib.compareBytes (s.data.toList.drop (i+1)) (t.data.toList.drop (i+1)):=by
 have e:s[i]=t[i]:=UInt8.toNat_inj.mp h
 rw [Zgt f,Zgt g,Lib.compareBytes,e,if_neg (by simp),if_neg (by simp)]
theorem Ja0 {s t:ByteArray} {i:Nat} (f:i<s.size) (g:i<t.size) (h:s[i].toNat≠t[i].toNat) :
  Lib.compareBytes (s.data.toList.drop i) (t.data.toList.drop i)=cmpI s[i].toNat t[i].toNat:=by
 rw [Zgt f,Zgt g,Lib.compareBytes]
 unfold cmpI
 by_cases a:s[i].toNat<t[i].toNat
 ·rw [if_pos (UInt8.lt_iff_toNat_lt.mpr a),if_pos (by omega)]
 ·have u:t[i].toNat<s[i].toNat:=by omega
  rw [if_neg (fun c=>a (UInt8.lt_iff_toNat_lt.mp c)),if_pos (UInt8.lt_iff_toNat_lt.mpr u),if_neg (by omega),if_pos (by omega)]
theorem Zp3 (b:UInt8):IntKind.i64.wrap (b.toNat:Int)=b.toNat:=by
 have:=b.toNat_lt
 rw [IntKind.wrap_i64]
 omega
set_option maxHeartbeats 1000000 in
theorem Zp4 (s t:ByteArray) (w:World) (x:s.size<=9223372036854775807) (ht:t.size<=9223372036854775807) :
  Calls Tryz.prog 160 #[.string s,.string t] w fun e w'=>e=.returned (.int .i64 (Lib.compareBytes s.data.toList t.data.toList))/\∃ q,w'=w.drewN q:=by
 go_enter Tryz.func160,Tryz.ntmps160
 go_wp2_with fail
 go_loopw [5] (fun i wr=>∃ j:Nat,j<=s.size/\j<=t.size/\i=.int .i64 j/\(∃ q,wr=w.drewN q)/\Lib.compareBytes (s.data.toList.drop j) (t.data.toList.drop j)=Lib.compareBytes s.data.toList t.data.toList) (fun i _=>s.size - (intOf i).toNat)
 case atStart=>exact ⟨0,Nat.zero_le _,Nat.zero_le _,rfl,⟨0,rfl⟩,rfl⟩
 case round =>
  obtain ⟨j,p,n,rfl,⟨q,o⟩,m⟩:=hrel
  subst o
  have d:Hid (Lib.compareBytes (s.data.toList.drop j) (t.data.toList.drop j)=Lib.compareBytes s.data.toList t.data.toList):=m
  clear m
  by_cases f:j<s.size
  ·by_cases g:j<t.size
   ·by_cases h3:s[j].toNat=t[j].toNat
    ·have k:Hid (Lib.compareBytes (s.data.toList.drop (j+1)) (t.data.toList.drop (j+1))=Lib.compareBytes s.data.toList t.data.toList):=(Jaz f g h3).symm.trans d.out
     have r:((s[j].toNat:Int)==(t[j].toNat:Int))=true:=Za3 (by omega)
     clear h3 d
     go_wp2_with fail
     go_quiet (fail)
     go_wp2_with fail
     go_roundw
     case rel=>exact ⟨j+1,by omega,by omega,by go_num,⟨_,rfl⟩,k.out⟩
     case measure=>simp [intOf];omega
    ·have k:Hid (cmpI s[j].toNat t[j].toNat=Lib.compareBytes s.data.toList t.data.toList):=(Ja0 f g h3).symm.trans d.out
     have r:((s[j].toNat:Int)==(t[j].toNat:Int))=false:=Zs (by omega)
     clear h3 d
     go_wp2_with fail
     go_quiet (fail)
     go_wp2_with fail
     go_region_with (go_at_call 158;refine (Zdd _ _ _).mono ?_;rintro e w' ⟨rfl,rfl⟩)
     all_goals
      go_wp2_with fail
      go_ret
      exact ⟨by rw [Zp3,Zp3,<- k.out];rfl,_,rfl⟩
   ·have k:Hid (cmpI s.size t.size=Lib.compareBytes s.data.toList t.data.toList):=(Zp2 (.inr (by omega)) p n).symm.trans d.out
    clear d
    go_wp2_with fail
    refine (Zdd _ _ _).mono ?_;rintro e w' ⟨rfl,rfl⟩
    go_wp2_with fail
    go_ret
    exact ⟨by rw [<- k.out];rfl,_,rfl⟩
  ·have k:Hid (cmpI s.size t.size=Lib.compareBytes s.data.toList t.data.toList):=(Zp2 (.inl (by omega)) p n).symm.trans d.out
   clear d
   go_wp2_with fail
   refine (Zdd _ _ _).mono ?_;rintro e w' ⟨rfl,rfl⟩
   go_wp2_with fail
   go_ret
   exact ⟨by rw [<- k.out];rfl,_,rfl⟩
end Go.Proofs.YthfilnflgahcjaaGreatDoor

namespace Go.Proofs.YthfilnflgahcjaaGreatDoor
open Go.RowKit Go.Shelf
set_option linter.all false
def kinds:List Int:=[5,6,7,4,3,1,2,0]
theorem Zvb (j:Nat) (h:j<8):Zbd (kinds.getD j 0)=j:=by
 match j,h with
 | 0,_=>rfl | 1,_=>rfl | 2,_=>rfl | 3,_=>rfl | 4,_=>rfl | 5,_=>rfl | 6,_=>rfl | 7,_=>rfl
theorem Jdx (k:Int) (c:0<=k) (d:k<=7):∃ m:Nat,m<8/\k=kinds.getD m 0/\∀ j<m,kinds.getD j 0≠k:=by
 have:k=0\/k=1\/k=2\/k=3\/k=4\/k=5\/k=6\/k=7:=by omega
 rcases this with rfl | rfl | rfl | rfl | rfl | rfl | rfl | rfl
 ·exact ⟨7,by decide,rfl,by decide⟩
 ·exact ⟨5,by decide,rfl,by decide⟩
 ·exact ⟨6,by decide,rfl,by decide⟩
 ·exact ⟨4,by decide,rfl,by decide⟩
 ·exact ⟨3,by decide,rfl,by decide⟩
 ·exact ⟨0,by decide,rfl,by decide⟩
 ·exact ⟨1,by decide,rfl,by decide⟩
 ·exact ⟨2,by decide,rfl,by decide⟩
set_option maxHeartbeats 1000000 in
theorem Ze7 (k:Int) (w:World) (c:0<=k) (d:k<=7) :
  Calls Tryz.prog 159 #[.int .i64 k] w fun e w'=>e=.returned (.int .i64 (Zbd k))/\Below w.heap.size w w':=by
 obtain ⟨m,hm,hk,a⟩:=Jdx k c d
 have l:Hid (Zbd k=m):=by show _=_;rw [hk];exact Zvb m hm
 have b:=Za a
 have o:=Za hk
 clear a hk c d
 go_enter Tryz.func159,Tryz.ntmps159
 go_wp2_with fail
 have g:=Za ((Below.refl w.heap.size w).alloc (Nat.le_refl _) (Obj.cells #[.int .i64 5,.int .i64 6,.int .i64 7,.int .i64 4,.int .i64 3,.int .i64 1,.int .i64 2,.int .i64 0] 85))
 have n:Hid (∀ j<8,(w.alloc (Obj.cells #[.int .i64 5,.int .i64 6,.int .i64 7,.int .i64 4,.int .i64 3,.int .i64 1,.int .i64 2,.int .i64 0] 85)).cell? ⟨w.heap.size,j,none⟩=some (.int .i64 (kinds.getD j 0))):=by
  intro j f
  match j,f with
  | 0,_ | 1,_ | 2,_ | 3,_ | 4,_ | 5,_ | 6,_ | 7,_=>simp [go_sem,kinds]
 generalize w.alloc (Obj.cells #[.int .i64 5,.int .i64 6,.int .i64 7,.int .i64 4,.int .i64 3,.int .i64 1,.int .i64 2,.int .i64 0] 85)=W at *
 go_loop [4] (fun i=>∃ j:Nat,j<=m/\i=.int .i64 j) (fun i=>8 - (intOf i).toNat)
 case atStart=>exact ⟨0,Nat.zero_le _,rfl⟩
 case round =>
  obtain ⟨j,f,rfl⟩:=hrel
  have q:=n.out j (by omega)
  by_cases hlt:j=m
  ·have e:(kinds.getD j 0==k)=true:=Za3 (by rw [hlt];exact o.out.symm)
   have p:Hid (Zbd k=j):=by show _=_;rw [hlt];exact l.out
   generalize kinds.getD j 0=x at *
   clear hlt
   go_wp2_with fail
   go_ret
   exact ⟨by rw [p.out];rfl,g.out⟩
  ·have e:(kinds.getD j 0==k)=false:=Zs (b.out j (by omega))
   generalize kinds.getD j 0=x at *
   go_wp2_with fail
   go_round
   case rel=>exact ⟨j+1,by omega,by go_num⟩
   case measure=>simp [intOf];omega
end Go.Proofs.YthfilnflgahcjaaGreatDoor

namespace Go.Proofs.YthfilnflgahcjaaGreatDoor
open Go.RowKit Go.Shelf
set_option linter.all false
theorem KnownL.mem:∀ {ts:List Zd},KnownL ts->∀ {t},t ∈ ts->Zeh t
 | [],_,_,h=>by cases h
 | a::r,h,t,hm=>by
  simp only [KnownL] at h
  rcases List.mem_cons.mp hm with rfl | hm
  ·exact h.1
  ·exact KnownL.mem h.2 hm
set_option maxHeartbeats 2000000 in
theorem Zr7 (a:List Zd) (ih:∀ t ∈ a,∀ (B:Nat) (v v':Value) (V:Zd) (w:World),B<=w.heap.size->Zb6 B w v t->Zb6 B w v' V->Zeh t->Zeh V->Calls Tryz.prog 137 #[v,v'] w fun e w'=>e=.returned (.int .i64 (Ziy t V))/\Below w.heap.size w w')
  (B:Nat) (la lb:Option Addr) (L cb:Nat) (b:List Zd) (w:World) (hB:B<=w.heap.size) (ha:Ze3 B w la a) (hb:Ze3 B w lb b) (h1:a.length<=L) (h2:L<=maxLen) (h3:b.length<=cb) (h4:cb<=maxLen) (m:KnownL a) (C:KnownL b) :
  Calls Tryz.prog 161 #[.slice la a.length L,.slice lb b.length cb] w fun e w'=>e=.returned (.int .i64 (ordL a b))/\Below w.heap.size w w':=by
 unfold maxLen at h2 h4
 have T:=Za m
 have N:=Za C
 clear m C
 go_enter Tryz.func161,Tryz.ntmps161
 go_wp2_with fail
 go_loopw [5] (fun i wr=>∃ j:Nat,j<=a.length/\j<=b.length/\i=.int .i64 j/\Below w.heap.size w wr/\ordL (a.drop j) (b.drop j)=ordL a b) (fun i _=>a.length - (intOf i).toNat)
 case atStart=>exact ⟨0,Nat.zero_le _,Nat.zero_le _,rfl,Below.refl _ _,rfl⟩
 case round =>
  obtain ⟨j,hj,a6,rfl,c,g⟩:=hrel
  have d:Hid (ordL (a.drop j) (b.drop j)=ordL a b):=g
  clear g
  by_cases hja:j<a.length
  ·by_cases hjb:j<b.length
   ·obtain ⟨bl,off,rfl,P,hk⟩:=ha.resolve_left (by intro e;subst e;simp at hja)
    obtain ⟨a4,Y,rfl,u,y⟩:=hb.resolve_left (by intro e;subst e;simp at hjb)
    obtain ⟨⟨k,x,n,s,ks,ts⟩,D⟩:∃ t,a[j]?=some t:=⟨_,List.getElem?_eq_getElem hja⟩
    obtain ⟨⟨k',x',n',s',U,K⟩,H⟩:∃ t,b[j]?=some t:=⟨_,List.getElem?_eq_getElem hjb⟩
    have o:=Za (Zww D H)
    have E:=hk.below (c.mono hB) P
    have f:=y.below (c.mono hB) u
    obtain ⟨ka,kc,la,lc,⟨c0,c1,c2,c3,c4,c5⟩,hl⟩:=E.cells D
    obtain ⟨a1,a0,a3,a2,⟨d0,d1,d2,d3,d4,d5⟩,z⟩:=f.cells H
    have M:=Za (ih _ (List.mem_of_getElem? D))
    have O:=Za (T.out.mem (List.mem_of_getElem? D))
    have W:=Za (N.out.mem (List.mem_of_getElem? H))
    clear D H hk y E f
    have hL:=Za hl
    have R:=Za z
    clear hl z
    have Q:B<=wr.heap.size:=Nat.le_trans hB c.size
    go_wp2_with fail
    have HC:=Za (M.out B _ _ _ wr.drew (show B<=wr.drew.heap.size from Q) (hL.out.below (Below.refl B wr).drew) (R.out.below (Below.refl B wr).drew) O.out W.out)
    go_region_with (go_at_call 137;refine HC.out.mono ?_;rintro e w' ⟨rfl,G⟩)
    all_goals
     have l:Hid (Below w.heap.size w w'):=c.drew.trans (G.mono c.size)
     generalize q:Ziy (.mk k x n s ks ts) (.mk k' x' n' s' U K)=cm at *
     have a5:=Za q
     clear q G c0 c1 c2 c3 c4 c5 d0 d1 d2 d3 d4 d5
     by_cases h0:cm=0
     ·have X:(cm != 0)=false:=by simp [h0]
      have F:(cm==0)=true:=by simp [h0]
      go_wp2_with fail
      go_roundw
      case rel=>exact ⟨j+1,by omega,by omega,by go_num,l.out,by have:=o.out;rw [if_pos h0] at this;rw [<- this];exact d.out⟩
      case measure=>simp [intOf];omega
     ·have X:(cm != 0)=true:=by simp [h0]
      have F:(cm==0)=false:=by simp [h0]
      go_wp2_with fail
      go_ret
      refine ⟨?_,l.out⟩
      have:=o.out;rw [if_neg h0] at this;rw [<- d.out,this];rfl
   ·have S:Hid (cmpI a.length b.length=ordL a b):=by show _=_;rw [<- d.out,Ztc (by omega)]
    clear d
    go_wp2_with fail
    refine (Zdd _ _ _).mono ?_
    rintro e w' ⟨rfl,rfl⟩
    go_wp2_with fail
    go_ret
    exact ⟨by rw [<- S.out];rfl,c⟩
  ·have S:Hid (cmpI a.length b.length=ordL a b):=by show _=_;rw [<- d.out,Ztc (by omega)]
   clear d
   go_wp2_with fail
   refine (Zdd _ _ _).mono ?_
   rintro e w' ⟨rfl,rfl⟩
   go_wp2_with fail
   go_ret
   exact ⟨by rw [<- S.out];rfl,c⟩
theorem Zel {w w1:World} {A A':Array Value} (hb:Below ((w.alloc (.cells A 88)).alloc (.cells A' 88)).heap.size ((w.alloc (.cells A 88)).alloc (.cells A' 88)) w1) :
  Below w.heap.size w w1/\(∀ i v,A[i]?=some v->w1.cell? ⟨w.heap.size,i,none⟩=some v)/\(∀ i v,A'[i]?=some v->w1.cell? ⟨w.heap.size+1,i,none⟩=some v):=by
 simp only [World.size_alloc] at hb
 refine ⟨(((Below.refl _ w).alloc (Nat.le_refl _) _).alloc (by simp) _).trans (hb.mono (by omega)),fun i v I=>?_,fun i v I=>?_⟩
 ·rw [hb.cell (p:=⟨w.heap.size,i,none⟩) (by show w.heap.size<_;omega),World.cell?_of_block (Below.heap_alloc _ _ _ (by simp))]
  exact Zh _ _ _ _ _ I
 ·rw [hb.cell (p:=⟨w.heap.size+1,i,none⟩) (by show w.heap.size+1<_;omega)]
  have:=Zh (w.alloc (.cells A 88)) A' 88 i v I
  rwa [World.size_alloc] at this
end Go.Proofs.YthfilnflgahcjaaGreatDoor

