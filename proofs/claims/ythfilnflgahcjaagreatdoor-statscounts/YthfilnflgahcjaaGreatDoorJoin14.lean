/- Comparing rows: strict orders. The sort of counts' rows, at most twelve of them (125). The sort of counts' rows, at most twelve of them (128). The sorts of counts' rows at any length. -/
import Derived.Test.YthfilnflgahcjaaGreatDoorJoin13
import Derived.Test.YthfilnflgahcjaaGreatDoorJoin12
import Derived.Shelf.SlSortCmp.WholeK
namespace Go.Proofs.YthfilnflgahcjaaGreatDoor.Cm
open Go.RowKit Go.Shelf Go.Sort
set_option linter.all false
def cmpI (a b:Int):Int:=if a<b then -1 else if b<a then 1 else 0
def Three (x:Int):Prop:=x=-1\/x=0\/x=1
def Leads (x y z:Int):Prop:=(x=0->z=y)/\(y=0->z=x)/\(x=y->z=x)
theorem lex_three {x y:Int} (j:Three x) (i:x=0->Three y):Three (if x=0 then y else x):=by
 split
 ·exact i ‹_›
 ·exact j
theorem lex_leads {n o l A v C:Int} (G:Three n) (r2:Three o) (H:Three l) (w:Leads n o l) (E:n=0->o=0->Three A/\Three v/\Three C/\Leads A v C) :
  Leads (if n=0 then A else n) (if o=0 then v else o) (if l=0 then C else l):=by
 unfold Three Leads at *
 by_cases j:n=0
 ·by_cases i:o=0
  ·obtain ⟨a,b,c,d⟩:=E j i
   have p:l=0:=by omega
   rw [if_pos j,if_pos i,if_pos p];exact d
  ·have p:l≠0:=by omega
   rw [if_pos j,if_neg i,if_neg p]
   have:l=o:=w.1 j
   refine ⟨fun _=>this,fun e=>absurd e i,fun e=>?_⟩
   omega
 ·by_cases i:o=0
  ·have p:l≠0:=by omega
   rw [if_neg j,if_pos i,if_neg p]
   have:l=n:=w.2.1 i
   refine ⟨fun e=>absurd e j,fun _=>this,fun e=>?_⟩
   omega
  ·rw [if_neg j,if_neg i]
   refine ⟨fun e=>absurd e j,fun e=>absurd e i,fun e=>?_⟩
   have:l=n:=w.2.2 e
   rw [if_neg (by omega)];exact this
theorem cmpI_three (a b:Int):Three (cmpI a b):=by unfold cmpI Three;split<;>(try split)<;>omega
theorem cmpI_turn (a b:Int):cmpI b a=-cmpI a b:=by unfold cmpI;split<;>split<;>(try split)<;>(try split)<;>omega
theorem cmpI_leads (a b c:Int):Leads (cmpI a b) (cmpI b c) (cmpI a c):=by
 unfold cmpI Leads
 rcases Int.lt_trichotomy a b with h | h | h<;>rcases Int.lt_trichotomy b c with g | g | g<;>rcases Int.lt_trichotomy a c with e | e | e<;>simp_all<;>omega
theorem cmpB_eq (a b:UInt8) (r t:List UInt8):Lib.compareBytes (a::r) (b::t)=if cmpI a.toNat b.toNat=0 then Lib.compareBytes r t else cmpI a.toNat b.toNat:=by
 rw [Lib.compareBytes]
 by_cases j:a<b
 ·have h:a.toNat<b.toNat:=j
  have:cmpI a.toNat b.toNat=-1:=by unfold cmpI;rw [if_pos (by omega)]
  rw [if_pos j,this];rfl
 ·have h:¬ a.toNat<b.toNat:=j
  by_cases i:b<a
  ·have g:b.toNat<a.toNat:=i
   have:cmpI a.toNat b.toNat=1:=by unfold cmpI;rw [if_neg (by omega),if_pos (by omega)]
   rw [if_neg j,if_pos i,this];rfl
  ·have g:¬ b.toNat<a.toNat:=i
   have:cmpI a.toNat b.toNat=0:=by unfold cmpI;rw [if_neg (by omega),if_neg (by omega)]
   rw [if_neg j,if_neg i,this];rfl
theorem cmpB_three:∀ (a b:List UInt8),Three (Lib.compareBytes a b)
 | [],[]=>.inr (.inl rfl)
 | [],_::_=>.inl rfl
 | _::_,[]=>.inr (.inr rfl)
 | a::r,b::t=>by rw [cmpB_eq];exact lex_three (cmpI_three _ _) fun _=>cmpB_three r t
theorem cmpB_turn:∀ (a b:List UInt8),Lib.compareBytes b a=-Lib.compareBytes a b
 | [],[]=>rfl
 | [],_::_=>rfl
 | _::_,[]=>rfl
 | a::r,b::t=>by
  rw [cmpB_eq,cmpB_eq,cmpI_turn,cmpB_turn r t]
  by_cases h:cmpI (a.toNat:Int) b.toNat=0
  ·rw [if_pos (by omega),if_pos h]
  ·rw [if_neg (by omega),if_neg h]
theorem cmpB_leads:∀ (a b c:List UInt8),Leads (Lib.compareBytes a b) (Lib.compareBytes b c) (Lib.compareBytes a c)
 | [],[],[]=>⟨fun _=>rfl,fun _=>rfl,fun _=>rfl⟩
 | [],[],_::_=>⟨fun _=>rfl,fun h=>by simp [Lib.compareBytes] at h,fun h=>by simp [Lib.compareBytes] at h⟩
 | [],_::_,[]=>⟨fun h=>by simp [Lib.compareBytes] at h,fun h=>by simp [Lib.compareBytes] at h,fun h=>by simp [Lib.compareBytes] at h⟩
 | _::_,[],[]=>⟨fun h=>by simp [Lib.compareBytes] at h,fun _=>rfl,fun h=>by simp [Lib.compareBytes] at h⟩
 | [],b::t,c::u=>⟨fun h=>by simp [Lib.compareBytes] at h,fun _=>rfl,fun _=>rfl⟩
 | a::r,[],c::u=>⟨fun h=>by simp [Lib.compareBytes] at h,fun h=>by simp [Lib.compareBytes] at h,fun h=>by simp [Lib.compareBytes] at h⟩
 | a::r,b::t,[]=>by
  have p:=cmpB_three (a::r) (b::t)
  refine ⟨fun _=>rfl,fun h=>by simp [Lib.compareBytes] at h,fun h=>?_⟩
  have:Lib.compareBytes (b::t) []=1:=rfl
  rw [this] at h
  rw [h];rfl
 | a::r,b::t,c::u=>by
  rw [cmpB_eq,cmpB_eq,cmpB_eq]
  exact lex_leads (cmpI_three _ _) (cmpI_three _ _) (cmpI_three _ _) (cmpI_leads _ _ _) fun _ _=>⟨cmpB_three r t,cmpB_three t u,cmpB_three r u,cmpB_leads r t u⟩
def Zoy {α:Type} (cf:α->α->Int):Prop:=(∀ x y,Three (cf x y))/\(∀ x y,cf y x=-cf x y)/\∀ x y z,Leads (cf x y) (cf y z) (cf x z)
theorem Zoz {α:Type} {f g:α->α->Int} (B:Zoy f) (hg:Zoy g):Zoy (fun x y=>if f x y=0 then g x y else f x y):=by
 obtain ⟨m,s,f3⟩:=B
 obtain ⟨q,F,D⟩:=hg
 refine ⟨fun x y=>lex_three (m x y) fun _=>q x y,fun x y=>?_,fun x y z=>lex_leads (m _ _) (m _ _) (m _ _) (f3 x y z) fun _ _=>⟨q _ _,q _ _,q _ _,D x y z⟩⟩
 have:=s x y
 by_cases h:f x y=0
 ·simp only [h,if_true];rw [if_pos (by omega)];exact F x y
 ·simp only [h,if_false];rw [if_neg (by omega)];exact this
theorem Zg6 {α:Type} {f:α->α->Int} (B:Zoy f):SWO (ltOf f):=by
 obtain ⟨m,s,f3⟩:=B
 unfold Three Leads at *
 refine ⟨fun x=>?_,fun x y z j i=>?_,fun x y z j i=>?_⟩
 ·have:=s x x;simp only [ltOf,decide_eq_false_iff_not];omega
 ·simp only [ltOf,decide_eq_true_eq] at *
  have:=m x y;have:=m y z;have:=f3 x y z;omega
 ·simp only [ltOf,decide_eq_false_iff_not] at *
  have:=m x y;have:=m y z;have:=m x z;have:=f3 x y z;omega
theorem Zeu {α:Type} (k:α->ByteArray):Zoy (fun x y=>Zc5 (k x) (k y)):=⟨fun x y=>cmpB_three _ _,fun x y=>cmpB_turn _ _,fun x y z=>cmpB_leads _ _ _⟩
theorem Zv7:∀ a b:Bool,Zkd a b=-1\/Zkd a b=0\/Zkd a b=1:=by decide
theorem Zzf:∀ a b:Bool,Zkd b a=-Zkd a b:=by decide
theorem Zv8:∀ a b c:Bool,(Zkd a b=0->Zkd a c=Zkd b c)/\(Zkd b c=0->Zkd a c=Zkd a b)/\(Zkd a b=Zkd b c->Zkd a c=Zkd a b):=by decide
theorem Zzg {α:Type} (k:α->Bool):Zoy (fun x y=>Zkd (k x) (k y)):=⟨fun x y=>Zv7 _ _,fun x y=>Zzf _ _,fun x y z=>Zv8 _ _ _⟩
end Go.Proofs.YthfilnflgahcjaaGreatDoor.Cm
namespace Go.Proofs.YthfilnflgahcjaaGreatDoor
open Go.RowKit Go.Shelf Go.Sort Cm
theorem Zzh:Zoy cfE:=by
 have h:=Zoz (Zeu (fun x:Zae=>x.1)) (Zoz (Zeu (fun x:Zae=>x.2.1)) (Zzg (fun x:Zae=>x.2.2.1)))
 have e:cfE=fun x y:Zae=>if Zc5 x.1 y.1=0 then (if Zc5 x.2.1 y.2.1=0 then Zkd x.2.2.1 y.2.2.1 else Zc5 x.2.1 y.2.1) else Zc5 x.1 y.1:=by
  funext x y
  simp only [cfE,orI]
  split
  ·split
   ·split
    ·rename_i h;exact h.symm
    ·rfl
   ·rfl
  ·rfl
 rw [e];exact h
theorem Zzi:Zoy cfK:=by
 have h:=Zoz (Zeu (fun x:Zav=>x.1)) (Zeu (fun x:Zav=>x.2.1))
 have e:cfK=fun x y:Zav=>if Zc5 x.1 y.1=0 then Zc5 x.2.1 y.2.1 else Zc5 x.1 y.1:=by
  funext x y
  simp only [cfK,orI]
  split
  ·split
   ·rename_i h;exact h.symm
   ·rfl
  ·rfl
 rw [e];exact h
theorem Zzj:Zoy cfL:=Zeu (fun x:ByteArray × Int=>x.1)
end Go.Proofs.YthfilnflgahcjaaGreatDoor

namespace Go.Proofs
open Go.Shelf
def Tryz.laysIns92_ren:Go.Shelf.Ren:=⟨fun | 20=>189 | n=>n,fun | 22=>30 | 24=>64 | 25=>151 | n=>n,fun | n=>n⟩
theorem Tryz.laysIns92:Go.Proofs.SlLaysF0.n20 Tryz.prog Tryz.laysIns92_ren:={
 mixed:=by kernel_rfl
 f20:=⟨Tryz.f189.name,by decide,Tryz.func189.trans (congrArg some (by kernel_rfl))⟩
 t0:=Tryz.underlying0
 a0:=Tryz.isAgg0
 z0:=Tryz.sizeOf0
 v0:=Tryz.zeroValue0
 t3:=Tryz.underlying3
 a3:=Tryz.isAgg3
 z3:=Tryz.sizeOf3
 v3:=Tryz.zeroValue3
 t4:=Tryz.underlying4
 a4:=Tryz.isAgg4
 z4:=Tryz.sizeOf4
 v4:=Tryz.zeroValue4
 t22:=Tryz.underlying30
 a22:=Tryz.isAgg30
 z22:=Tryz.sizeOf30
 v22:=Tryz.zeroValue30
 t25:=Tryz.underlying151
 a25:=Tryz.isAgg151
 z25:=Tryz.sizeOf151
 v25:=Tryz.zeroValue151 }
end Go.Proofs
namespace Go.Proofs.YthfilnflgahcjaaGreatDoor
open Go.RowKit Go.Shelf Go.Sort Cm
set_option linter.all false
attribute [local go_sem] Oper.semAt_some
theorem Jbo (x:Zae):(Zc7 x).length=4:=rfl
theorem Jcv (x:Zae):∀ v ∈ Zc7 x,v.oneCell'=true:=by
 intro v z
 simp only [Zc7,List.mem_cons,List.not_mem_nil,or_false] at z
 rcases z with rfl | rfl | rfl | rfl<;>rfl
set_option maxRecDepth 100000 in
set_option maxHeartbeats 4000000 in
theorem Zsf (v f:Value) (n:Nat) (D:(n:Int)<=12) (l:Int) (w:World) (Q:World->Prop) (h:Calls Tryz.prog 189 #[v,.int .i64 0,.int .i64 n,f] w fun e w'=>e=.returned (.tuple #[])/\Q w'):Calls Tryz.prog 150 #[v,.int .i64 0,.int .i64 n,.int .i64 l,f] w fun e w'=>e=.returned (.tuple #[])/\Q w':=by
 have t:∀ W:World,(binOp .sub 3 (.int .i64 (n:Int)) (.int .i64 0)).run Tryz.prog W=.ok (.int .i64 (n:Int)) W:=fun W=>by
  have u:IntKind.i64.wrap (n:Int)=n:=by rw [IntKind.wrap_i64];omega
  simp [binOp,go_sem,u]
 have s:=Za h
 clear h
 go_enter Tryz.func150,Tryz.ntmps150
 go_wp2_with fail
 go_loopw [1,2] (fun i j wr=>i=.int .i64 0/\j=.int .i64 (n:Int)/\wr=w) (fun _ _ _=>0)
 case atStart=>exact ⟨rfl,rfl,rfl⟩
 case round =>
  obtain ⟨rfl,rfl,o⟩:=hrel
  rw [o]
  clear o
  go_wp2_with fail
  refine s.out.mono ?_
  rintro e w2 ⟨rfl,k⟩
  have q:=Za k
  clear k
  go_wp2_with fail
  exact bodyPost_ret (v:=.tuple #[]) (by simp [results,Tryz.results150,go_sem]) rfl ⟨rfl,q.out⟩
set_option maxRecDepth 100000 in
set_option maxHeartbeats 4000000 in
theorem Zgf (a:Option Addr) (n c:Nat) (f:Value) (hn:n<=12) (w:World) (Q:World->Prop) (h:Calls Tryz.prog 189 #[.slice a n c,.int .i64 0,.int .i64 n,f] w fun e w'=>e=.returned (.tuple #[])/\Q w'):Calls Tryz.prog 125 #[.slice a n c,f] w fun e w'=>e=.returned (.tuple #[])/\Q w':=by
 have A:=Za (Tryz.bits_Len (n:Int) w (by omega) (by omega))
 have s:=Za (fun l=>Zsf (.slice a n c) f n (by omega) l w Q h)
 generalize (Lib.bitLen (n:Int).toNat:Int)=l at A
 have u:IntKind.u64.wrap (n:Int)=n:=by rw [IntKind.wrap_u64];omega
 clear hn h
 go_enter Tryz.func125,Tryz.ntmps125
 go_wp2_with fail
 refine A.out.mono ?_
 rintro e w2 ⟨rfl,p⟩
 rw [p]
 clear p
 go_wp2_with fail
 refine (s.out _).mono ?_
 rintro e F ⟨rfl,k⟩
 have q:=Za k
 clear k
 go_wp2_with fail
 exact bodyPost_end (v:=.tuple #[]) (by simp [results,Tryz.results125,go_sem]) rfl ⟨rfl,q.out⟩
set_option maxRecDepth 100000 in
set_option maxHeartbeats 4000000 in
theorem Zm2 (f:Value) (w:World):Calls Tryz.prog 189 #[.slice none 0 0,.int .i64 0,.int .i64 (0:Nat),f] w fun e w'=>e=.returned (.tuple #[])/\w'=w:=by
 go_enter Tryz.func189,Tryz.ntmps189
 go_wp2_with fail
 go_loopw [8] (fun i wr=>i=.int .i64 1/\wr=w) (fun _ _=>0)
 case atStart=>exact ⟨rfl,rfl⟩
 case round =>
  obtain ⟨rfl,rfl⟩:=hrel
  go_wp2_with fail
  exact bodyPost_end (v:=.tuple #[]) (by simp [results,Tryz.results189,go_sem]) rfl ⟨rfl,rfl⟩
theorem Zvv:∀ (W:World) (v:Value) (base:Nat) (xs:List (Zae)),base<=W.heap.size->xs.length<=12->Jb 64 4 Zc7 base W v xs->Calls Tryz.prog 125 #[v,.func (.func 93) #[] #[]] W fun e w'=>e=.returned (.tuple #[])/\∃ r,r.Perm xs/\r.Pairwise (fun a b=>¬ cfE b a<0)/\Jb 64 4 Zc7 base w' v r/\Below base W w' :=
 fun W v base xs hB hl h=>Ze4 (fun x=>Jbo x) cfE (Zg6 Zzh) 125 (.func (.func 93) #[] #[]) (fun W=>Zgf none 0 0 _ (by omega) W _ (Zm2 _ W)) (fun W g cap d C B hg=>Zgf _ _ _ _ B W _ (AnyQ.insertionSortCmpFunc Tryz.laysIns92 4 (fun w=>Tryz.isAgg64 w) (fun w=>Tryz.sizeOf64 w) Zc7 Jbo Jcv cfE 93 #[] g 0 cap 0 d.size d W (fun args w=>enters_of Tryz.func93 (by kernel_rfl) rfl args w) (fun m os E _ x y=>Zpr x y _) C hg (Nat.zero_le _) (Nat.le_refl _) (by omega))) W v base xs hB hl h
end Go.Proofs.YthfilnflgahcjaaGreatDoor

namespace Go.Proofs
open Go.Shelf
def Tryz.laysIns98_ren:Go.Shelf.Ren:=⟨fun | 20=>205 | n=>n,fun | 22=>31 | 24=>66 | 25=>160 | n=>n,fun | n=>n⟩
theorem Tryz.laysIns98:Go.Proofs.SlLaysF0.n20 Tryz.prog Tryz.laysIns98_ren:={
 mixed:=by kernel_rfl
 f20:=⟨Tryz.f205.name,by decide,Tryz.func205.trans (congrArg some (by kernel_rfl))⟩
 t0:=Tryz.underlying0
 a0:=Tryz.isAgg0
 z0:=Tryz.sizeOf0
 v0:=Tryz.zeroValue0
 t3:=Tryz.underlying3
 a3:=Tryz.isAgg3
 z3:=Tryz.sizeOf3
 v3:=Tryz.zeroValue3
 t4:=Tryz.underlying4
 a4:=Tryz.isAgg4
 z4:=Tryz.sizeOf4
 v4:=Tryz.zeroValue4
 t22:=Tryz.underlying31
 a22:=Tryz.isAgg31
 z22:=Tryz.sizeOf31
 v22:=Tryz.zeroValue31
 t25:=Tryz.underlying160
 a25:=Tryz.isAgg160
 z25:=Tryz.sizeOf160
 v25:=Tryz.zeroValue160 }
end Go.Proofs
namespace Go.Proofs.YthfilnflgahcjaaGreatDoor
open Go.RowKit Go.Shelf Go.Sort Cm
set_option linter.all false
attribute [local go_sem] Oper.semAt_some
theorem Zz7 (x:Zav):(Zd3 x).length=4:=rfl
theorem Jcf (x:Zav):∀ v ∈ Zd3 x,v.oneCell'=true:=by
 intro v z
 simp only [Zd3,List.mem_cons,List.not_mem_nil,or_false] at z
 rcases z with rfl | rfl | rfl | rfl<;>rfl
set_option maxRecDepth 100000 in
set_option maxHeartbeats 4000000 in
theorem Zri (v f:Value) (n:Nat) (D:(n:Int)<=12) (l:Int) (w:World) (Q:World->Prop) (h:Calls Tryz.prog 205 #[v,.int .i64 0,.int .i64 n,f] w fun e w'=>e=.returned (.tuple #[])/\Q w'):Calls Tryz.prog 153 #[v,.int .i64 0,.int .i64 n,.int .i64 l,f] w fun e w'=>e=.returned (.tuple #[])/\Q w':=by
 have t:∀ W:World,(binOp .sub 3 (.int .i64 (n:Int)) (.int .i64 0)).run Tryz.prog W=.ok (.int .i64 (n:Int)) W:=fun W=>by
  have u:IntKind.i64.wrap (n:Int)=n:=by rw [IntKind.wrap_i64];omega
  simp [binOp,go_sem,u]
 have s:=Za h
 clear h
 go_enter Tryz.func153,Tryz.ntmps153
 go_wp2_with fail
 go_loopw [1,2] (fun i j wr=>i=.int .i64 0/\j=.int .i64 (n:Int)/\wr=w) (fun _ _ _=>0)
 case atStart=>exact ⟨rfl,rfl,rfl⟩
 case round =>
  obtain ⟨rfl,rfl,o⟩:=hrel
  rw [o]
  clear o
  go_wp2_with fail
  refine s.out.mono ?_
  rintro e w2 ⟨rfl,k⟩
  have q:=Za k
  clear k
  go_wp2_with fail
  exact bodyPost_ret (v:=.tuple #[]) (by simp [results,Tryz.results153,go_sem]) rfl ⟨rfl,q.out⟩
set_option maxRecDepth 100000 in
set_option maxHeartbeats 4000000 in
theorem Zf3 (a:Option Addr) (n c:Nat) (f:Value) (hn:n<=12) (w:World) (Q:World->Prop) (h:Calls Tryz.prog 205 #[.slice a n c,.int .i64 0,.int .i64 n,f] w fun e w'=>e=.returned (.tuple #[])/\Q w'):Calls Tryz.prog 128 #[.slice a n c,f] w fun e w'=>e=.returned (.tuple #[])/\Q w':=by
 have A:=Za (Tryz.bits_Len (n:Int) w (by omega) (by omega))
 have s:=Za (fun l=>Zri (.slice a n c) f n (by omega) l w Q h)
 generalize (Lib.bitLen (n:Int).toNat:Int)=l at A
 have u:IntKind.u64.wrap (n:Int)=n:=by rw [IntKind.wrap_u64];omega
 clear hn h
 go_enter Tryz.func128,Tryz.ntmps128
 go_wp2_with fail
 refine A.out.mono ?_
 rintro e w2 ⟨rfl,p⟩
 rw [p]
 clear p
 go_wp2_with fail
 refine (s.out _).mono ?_
 rintro e F ⟨rfl,k⟩
 have q:=Za k
 clear k
 go_wp2_with fail
 exact bodyPost_end (v:=.tuple #[]) (by simp [results,Tryz.results128,go_sem]) rfl ⟨rfl,q.out⟩
set_option maxRecDepth 100000 in
set_option maxHeartbeats 4000000 in
theorem Zmm (f:Value) (w:World):Calls Tryz.prog 205 #[.slice none 0 0,.int .i64 0,.int .i64 (0:Nat),f] w fun e w'=>e=.returned (.tuple #[])/\w'=w:=by
 go_enter Tryz.func205,Tryz.ntmps205
 go_wp2_with fail
 go_loopw [8] (fun i wr=>i=.int .i64 1/\wr=w) (fun _ _=>0)
 case atStart=>exact ⟨rfl,rfl⟩
 case round =>
  obtain ⟨rfl,rfl⟩:=hrel
  go_wp2_with fail
  exact bodyPost_end (v:=.tuple #[]) (by simp [results,Tryz.results205,go_sem]) rfl ⟨rfl,rfl⟩
theorem Zu0:∀ (W:World) (v:Value) (base:Nat) (xs:List (Zav)),base<=W.heap.size->xs.length<=12->Jb 66 4 Zd3 base W v xs->Calls Tryz.prog 128 #[v,.func (.func 99) #[] #[]] W fun e w'=>e=.returned (.tuple #[])/\∃ r,r.Perm xs/\r.Pairwise (fun a b=>¬ cfK b a<0)/\Jb 66 4 Zd3 base w' v r/\Below base W w' :=
 fun W v base xs hB hl h=>Ze4 (fun x=>Zz7 x) cfK (Zg6 Zzi) 128 (.func (.func 99) #[] #[]) (fun W=>Zf3 none 0 0 _ (by omega) W _ (Zmm _ W)) (fun W g cap d C B hg=>Zf3 _ _ _ _ B W _ (AnyQ.insertionSortCmpFunc Tryz.laysIns98 4 (fun w=>Tryz.isAgg66 w) (fun w=>Tryz.sizeOf66 w) Zd3 Zz7 Jcf cfK 99 #[] g 0 cap 0 d.size d W (fun args w=>enters_of Tryz.func99 (by kernel_rfl) rfl args w) (fun m os E _ x y=>Zps x y _) C hg (Nat.zero_le _) (Nat.le_refl _) (by omega))) W v base xs hB hl h
end Go.Proofs.YthfilnflgahcjaaGreatDoor

namespace Go.Proofs.YthfilnflgahcjaaGreatDoor
open Go.RowKit Go.Shelf Go.Sort Cm
set_option linter.all false
theorem Zq1:∀ (W:World) (v:Value) (base:Nat) (xs:List (ByteArray × Int)),base<=W.heap.size->xs.length<=1000000->Jb 42 2 Za0 base W v xs->Calls Tryz.prog 121 #[v,.func (.func 85) #[] #[]] W fun e w'=>e=.returned (.tuple #[])/\∃ c,c.Perm xs/\c.Pairwise (fun a b=>¬ cfL b a<0)/\Jb 42 2 Za0 base w' v c/\Below base W w' :=
 fun W v base xs hB hl h=>Zfr (fun x=>Jah x) cfL Jes 121 (.func (.func 85) #[] #[]) (fun W=>Zf6 none 0 0 _ (by omega) W _ (Zmq _ W)) (fun W g cap d f j hg=>AnyQ.slices_SortFunc Tryz.laysSrt121 2 (fun w=>Tryz.isAgg42 w) (fun w=>Tryz.sizeOf42 w) Za0 Jah Jch cfL Jes 85 #[] g 0 cap d W (fun args w=>enters_of Tryz.func85 (by kernel_rfl) rfl args w) (fun m os i _ x y=>Zpc x y _) f hg (by omega)) W v base xs hB hl h
theorem Zq2:∀ (W:World) (v:Value) (base:Nat) (xs:List (ByteArray × Int)),base<=W.heap.size->xs.length<=1000000->Jb 62 2 Za0 base W v xs->Calls Tryz.prog 123 #[v,.func (.func 89) #[] #[]] W fun e w'=>e=.returned (.tuple #[])/\∃ c,c.Perm xs/\c.Pairwise (fun a b=>¬ cfL b a<0)/\Jb 62 2 Za0 base w' v c/\Below base W w' :=
 fun W v base xs hB hl h=>Zfr (fun x=>Jav x) cfL Jes 123 (.func (.func 89) #[] #[]) (fun W=>Zf8 none 0 0 _ (by omega) W _ (Zmw _ W)) (fun W g cap d f j hg=>AnyQ.slices_SortFunc Tryz.laysSrt123 2 (fun w=>Tryz.isAgg62 w) (fun w=>Tryz.sizeOf62 w) Za0 Jav Jcn cfL Jes 89 #[] g 0 cap d W (fun args w=>enters_of Tryz.func89 (by kernel_rfl) rfl args w) (fun m os i _ x y=>Zpd x y _) f hg (by omega)) W v base xs hB hl h
theorem Zq3:∀ (W:World) (v:Value) (base:Nat) (xs:List (Zae)),base<=W.heap.size->xs.length<=1000000->Jb 64 4 Zc7 base W v xs->Calls Tryz.prog 125 #[v,.func (.func 93) #[] #[]] W fun e w'=>e=.returned (.tuple #[])/\∃ c,c.Perm xs/\c.Pairwise (fun a b=>¬ cfE b a<0)/\Jb 64 4 Zc7 base w' v c/\Below base W w' :=
 fun W v base xs hB hl h=>Zfr (fun x=>Jbo x) cfE (Zg6 Zzh) 125 (.func (.func 93) #[] #[]) (fun W=>Zgf none 0 0 _ (by omega) W _ (Zm2 _ W)) (fun W g cap d f j hg=>AnyQ.slices_SortFunc Tryz.laysSrt125 4 (fun w=>Tryz.isAgg64 w) (fun w=>Tryz.sizeOf64 w) Zc7 Jbo Jcv cfE (Zg6 Zzh) 93 #[] g 0 cap d W (fun args w=>enters_of Tryz.func93 (by kernel_rfl) rfl args w) (fun m os i _ x y=>Zpr x y _) f hg (by omega)) W v base xs hB hl h
theorem Zq4:∀ (W:World) (v:Value) (base:Nat) (xs:List (Zav)),base<=W.heap.size->xs.length<=1000000->Jb 66 4 Zd3 base W v xs->Calls Tryz.prog 128 #[v,.func (.func 99) #[] #[]] W fun e w'=>e=.returned (.tuple #[])/\∃ c,c.Perm xs/\c.Pairwise (fun a b=>¬ cfK b a<0)/\Jb 66 4 Zd3 base w' v c/\Below base W w' :=
 fun W v base xs hB hl h=>Zfr (fun x=>Zz7 x) cfK (Zg6 Zzi) 128 (.func (.func 99) #[] #[]) (fun W=>Zf3 none 0 0 _ (by omega) W _ (Zmm _ W)) (fun W g cap d f j hg=>AnyQ.slices_SortFunc Tryz.laysSrt128 4 (fun w=>Tryz.isAgg66 w) (fun w=>Tryz.sizeOf66 w) Zd3 Zz7 Jcf cfK (Zg6 Zzi) 99 #[] g 0 cap d W (fun args w=>enters_of Tryz.func99 (by kernel_rfl) rfl args w) (fun m os i _ x y=>Zps x y _) f hg (by omega)) W v base xs hB hl h
end Go.Proofs.YthfilnflgahcjaaGreatDoor

