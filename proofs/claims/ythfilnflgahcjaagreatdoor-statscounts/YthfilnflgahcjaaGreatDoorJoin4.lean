/- The walk of a region that draws its order: first what reads, then, one by one, what makes memory, then what waits for all. Numbers together, the share of a number in another, how many nodes there are. How rows and keys stand in cells. The first row of each key, by definition. The small functions: what a row's key is, its number. A row of the call's own, and some zeros more. -/
import Derived.Test.YthfilnflgahcjaaGreatDoorJoin3
import Derived.Test.YthfilnflgahcjaaGreatDoorJoin2
import Derived.Lib.AppendZeros
namespace Go.Proofs.YthfilnflgahcjaaGreatDoor
open Go.RowKit
section
variable {P:Program} {ops:Array Oper} {md:Region.Mode} {Q:Exit->Act->World->Prop} {keep:Nat->Bool}
def Zct (P:Program) (ops:Array Oper) (keep:Nat->Bool) (Q:Exit->Act->World->Prop):List (Bool × Nat)->Act->World->Prop
 | [],a,w=>Q .normal a w
 | (true,i)::r,a,w=>∃ M v,ops[i]?=some M/\YieldsIf P ops (upS w) M v a/\Zct P ops keep Q r (a.put M.dst v) w
 | (false,i)::r,a,w =>
  if keep i=true then wpOp P ops NoQ i (fun d w'=>Below w.heap.size w w'/\Zct P ops keep Q r d w') a w
  else wpOp P ops Q i (Zct P ops keep Q r) a w
def Zif (md:Region.Mode) (ops:Array Oper) (keep:Nat->Bool):List (Bool × Nat)->Array Bool->Bool
 | [],b=>(Region.ready md ops b).isEmpty
 | (true,i)::r,b=>(Region.ready md ops b).contains i&&(Region.free md ops b i&&(keep i&&(((List.range ops.size).all fun j=>j==i||(keep j||Zip md ops ops.size j i))&&Zif md ops keep r (b.setIfInBounds i true))))
 | (false,i)::r,b=>(Region.ready md ops b==[i])&&Zif md ops keep r (b.setIfInBounds i true)
theorem Zcu (I:Region.noSelect ops=true):∀ (l:List (Bool × Nat)) (b:Array Bool) (a:Act) (w:World),Zif md ops keep l b=true->Zdv md ops b->Zct P ops keep Q l a w->Zm7 P md ops keep Q l.length b a w
 | [],b,a,w,hc,_,h=>⟨by simpa [Zif] using hc,h⟩
 | (true,i)::r,b,a,w,hc,hcl,⟨M,v,g,hy,h⟩=>by
  simp only [Zif,Bool.and_eq_true] at hc
  obtain ⟨f,k,C,t,s⟩:=hc
  have hr:i ∈ Region.ready md ops b:=by simpa using f
  refine Zqr g (Region.noSelect_spec I) C (fun j p O N=>?_) r.length b a w hcl (Region.free_spec g k) hr hy (Zcu I r _ _ _ s (Zca hcl hr) h)
  have:=List.all_eq_true.1 t j (List.mem_range.2 p)
  simpa [O,N] using this
 | (false,i)::r,b,a,w,hc,hcl,h=>by
  simp only [Zif,Bool.and_eq_true,beq_iff_eq] at hc
  obtain ⟨f,k⟩:=hc
  have hr:i ∈ Region.ready md ops b:=by rw [f];exact List.mem_cons_self
  refine ⟨fun h0=>(by rw [h0] at f;cases f),fun j p=>?_⟩
  rw [f] at p
  obtain rfl:j=i:=by simpa using p
  rw [Zct] at h
  split
  ·rename_i hk
   rw [if_pos hk] at h
   exact wpOp_mono (fun d w' q=>⟨q.1,Zcu I r _ _ _ k (Zca hcl hr) q.2⟩) h
  ·rename_i hk
   rw [if_neg hk] at h
   exact wpOp_mono (fun d w' q=>Zcu I r _ _ _ k (Zca hcl hr) q) h
def upC (w:World):World->Prop:=fun w'=>∃ u:Up w,w'=u.x
def Zbn:List Oper->Nat->Option Oper
 | [],_=>none
 | o::_,0=>some o
 | _::l,n+1=>Zbn l n
theorem Zgu:∀ (l:List Oper) (n:Nat),Zbn l n=l[n]?
 | [],n=>by simp [Zbn]
 | o::l,0=>rfl
 | o::l,n+1=>by rw [Zbn,Zgu l n];simp
def Zac (L:List Oper):List Nat->List Oper
 | []=>[]
 | i::r=>match Zbn L i with
  | some o=>o::Zac L r
  | none=>Zac L r
def Zcp (P:Program) (L:List Oper) (i:Nat) (K:Act->World->Prop) (a:Act) (w:World):Prop :=
 wpList P L.toArray (fun e d w'=>e=.normal/\K d w') (Zac L [i]) a w
def Zb9 (P:Program) (L:List Oper) (Q:Exit->Act->World->Prop):List (List Nat × Nat)->List Nat->List Nat->Act->World->Prop
 | [],S,T,a,w=>wpQuiet P L.toArray (upC w) (fun d=>wpList P L.toArray Q (Zac L T) d w) (Zac L S) a
 | (S,i)::r,S',T,a,w=>wpQuiet P L.toArray (upC w) (fun d=>Zcp P L i (fun B m=>Below w.heap.size w m/\Zb9 P L Q r S' T B m) d w) (Zac L S) a
def reads (L:List Oper) (S:List Nat):Bool:=S.all fun i=>match Zbn L i with | some o=>Jcu o.op | none=>false
def Jht (S T:List Nat):List (Bool × Nat):=S.map (fun i=>(true,i))++T.map (fun i=>(false,i))
def Zle:List (List Nat × Nat)->List Nat->List Nat->List (Bool × Nat)
 | [],S,T=>Jht S T
 | (S,i)::r,S',T=>S.map (fun i=>(true,i))++(false,i)::Zle r S' T
def Ztv (L:List Oper) (T:List Nat):List (List Nat × Nat)->Bool
 | []=>true
 | (S,i)::r=>reads L S&&((Zbn L i).isSome&&(!T.contains i&&Ztv L T r))
def Jfx (L:List Oper) (A:List (List Nat × Nat)) (S T:List Nat):Bool :=
 Region.noSelect L.toArray&&(Ztv L T A&&(reads L S&&((T.all fun i=>(Zbn L i).isSome)&&((Zle A S T).length==L.length&&Zif .any L.toArray (fun j=>!T.contains j) (Zle A S T) (Array.replicate L.length false)))))
theorem Zig {L:List Oper} {r:List (Bool × Nat)} {w:World} {K:Act->Prop} (D:∀ a,K a->Zct P L.toArray keep Q r a w):∀ (S:List Nat) (a:Act),reads L S=true ->
  wpQuiet P L.toArray (upC w) K (Zac L S) a->Zct P L.toArray keep Q (S.map (fun i=>(true,i))++r) a w
 | [],a,_,h=>D a h
 | i::S,a,hr,h=>by
  simp only [reads,List.all_cons,Bool.and_eq_true] at hr
  obtain ⟨f,k⟩:=hr
  cases ho:Zbn L i with
  | none=>rw [ho] at f;cases f
  | some o =>
   rw [ho] at f
   simp only [Zac,ho,wpQuiet] at h
   have g:L.toArray[i]?=some o:=by rw [List.getElem?_toArray,<- Zgu,ho]
   by_cases hw:Region.wanted o (yielded L.toArray a.tmps)=true
   ·rw [if_pos hw] at h
    obtain ⟨v,C,t⟩:=h
    refine ⟨o,v,g,.inl ⟨hw,fun x W=>?_⟩,Zig D S _ k t⟩
    have s:=C x ⟨⟨x,W⟩,rfl⟩
    unfold Oper.quietAt at s
    generalize E:(execOp a.eval o).run P x=res at s
    cases res with
    | halt y z=>simp only [Oper.quietUpon] at s
    | ok n z =>
     obtain ⟨u,rfl⟩:=Zm0 f E
     simp only [Oper.quietUpon] at s
     rw [s.1,s.2]
   ·rw [if_neg hw] at h
    exact ⟨o,undef,g,.inr ⟨by simpa using hw,rfl⟩,Zig D S _ k h⟩
theorem Zqa {o:Oper} {a:Act} {w:World} {K Y:Act->World->Prop} (h:o.wp P a w K (fun e d w'=>e=.normal/\Y d w')):o.wp P a w K NoQ:=by
 unfold Oper.wp at *
 generalize (execOp a.eval o).run P w=res at *
 cases res with
 | ok n w' =>
  cases n<;>simp only [Oper.upon] at h |-<;>first | exact h | skip
  exact Calls.mono h fun e m he=>by
   cases e with
   | returned v=>exact he
   | panicked c=>exact Exit.noConfusion he.1
   | outgrown=>exact he.elim fun _ h=>h.elim fun _ h=>Exit.noConfusion h.1
 | halt x w'=>cases x<;>simp only [Oper.upon] at h |-;exact Exit.noConfusion h.1
theorem Jbb {L:List Oper} {r:List (Bool × Nat)} {i:Nat} {a:Act} {w:World} {K:Act->World->Prop} (hk:keep i=true) (hn:(Zbn L i).isSome=true) (D:∀ a w',K a w'->Below w.heap.size w w'/\Zct P L.toArray keep Q r a w')
  (h:Zcp P L i K a w):Zct P L.toArray keep Q ((false,i)::r) a w:=by
 rw [Zct,if_pos hk]
 unfold Zcp at h
 cases ho:Zbn L i with
 | none=>rw [ho] at hn;cases hn
 | some o =>
  have g:L.toArray[i]?=some o:=by rw [List.getElem?_toArray,<- Zgu,ho]
  simp only [Zac,ho,wpList] at h
  unfold wpOp
  simp only [g]
  split
  ·rename_i hw
   rw [if_pos hw] at h
   rcases h with h | ⟨_,_,_,h,_⟩
   ·exact .inl (Oper.wp_mono (fun d w' q=>D d w' q.2) (Zqa h))
   ·cases h
  ·rename_i hw
   rw [if_neg hw] at h
   exact D _ _ h.2
theorem Zkg {L:List Oper}:∀ (T:List Nat) (a:Act) (w:World),(∀ i ∈ T,keep i=false/\(Zbn L i).isSome=true)->wpList P L.toArray Q (Zac L T) a w->Zct P L.toArray keep Q (T.map (fun i=>(false,i))) a w
 | [],a,w,_,h=>h
 | i::T,a,w,H,h=>by
  obtain ⟨hk,hn⟩:=H i List.mem_cons_self
  rw [List.map_cons,Zct,if_neg (by rw [hk];exact Bool.false_ne_true)]
  cases ho:Zbn L i with
  | none=>rw [ho] at hn;cases hn
  | some o =>
   have g:L.toArray[i]?=some o:=by rw [List.getElem?_toArray,<- Zgu,ho]
   simp only [Zac,ho,wpList] at h
   have V:=fun a w=>Zkg T a w (fun j p=>H j (List.mem_cons_of_mem _ p))
   unfold wpOp
   simp only [g]
   split
   ·rename_i hw
    rw [if_pos hw] at h
    exact h.imp (Oper.wp_mono V) id
   ·rename_i hw
    rw [if_neg hw] at h
    exact V _ _ h
theorem Zmy {L:List Oper} {S T:List Nat} (U:reads L S=true) (H:∀ i ∈ T,keep i=false/\(Zbn L i).isSome=true) (G:∀ i,T.contains i=false->keep i=true):∀ (A:List (List Nat × Nat)) (a:Act) (w:World),Ztv L T A=true ->
  Zb9 P L Q A S T a w->Zct P L.toArray keep Q (Zle A S T) a w
 | [],a,w,_,h=>Zig (fun d q=>Zkg T d w H q) S a U h
 | (S1,i)::r,a,w,hA,h=>by
  simp only [Ztv,Bool.and_eq_true,Bool.not_eq_true'] at hA
  obtain ⟨f,k,C,t⟩:=hA
  exact Zig (fun d q=>Jbb (G i C) k (fun B m F=>⟨F.1,Zmy U H G r B m t F.2⟩) q) S1 a f h
theorem Ze9 {id:Nat} {L:List Oper} {a:Act} {w:World} (A:List (List Nat × Nat)) (S T:List Nat) (hm:P.follows .mixedOrders=true) (hB:Jfx L A S T=true) (h:Zb9 P L Q A S T a w.drew):(Code.region id L.toArray true).wp P Q a w:=by
 simp only [Jfx,Bool.and_eq_true,beq_iff_eq] at hB
 obtain ⟨f,k,C,t,s,X⟩:=hB
 refine wp_region_any hm (Zeq (keep:=fun j=>!T.contains j) _ _ _ _ ?_)
 have R:=Zcu (P:=P) (Q:=Q) f (Zle A S T) (Array.replicate L.length false) a w.drew X ⟨by simp,fun j oj _ hl=>by
  rcases Nat.lt_or_ge j L.length with p | p
  ·simp [p] at hl
  ·simp [p] at hl⟩ (Zmy C (fun i g=>⟨by simpa using g,List.all_eq_true.1 t i g⟩) (fun i g=>by rw [g];rfl) A a w.drew k h)
 rw [s] at R
 simpa using R
end
end Go.Proofs.YthfilnflgahcjaaGreatDoor

namespace Go.Proofs.YthfilnflgahcjaaGreatDoor
open Go.RowKit Go.Shelf
set_option linter.all false
attribute [local go_sem] Oper.semAt_some
def Zkk (n:Int):List Value:=[.int .i64 n]
theorem Zhq (n:Int):0<=Ze2 n:=by unfold Ze2;split<;>(try split)<;>omega
theorem Zsl (n:Int):Ze2 n<=4611686018427387904:=by unfold Ze2;split<;>(try split)<;>omega
def Zsm:Int->List Int->Int
 | t,[]=>t
 | t,n::r=>Zsm (t+(if 4611686018427387904 - t<Ze2 n then 4611686018427387904 - t else Ze2 n)) r
def Zah (l:List Int):Int:=Zsm 0 l
theorem Jbv {t:Int} {l:List Int} {j:Nat} {n:Int} (h:l[j]?=some n):Zsm t (l.drop j)=Zsm (t+(if 4611686018427387904 - t<Ze2 n then 4611686018427387904 - t else Ze2 n)) (l.drop (j+1)):=by
 obtain ⟨F,f⟩:=List.getElem?_eq_some_iff.1 h
 rw [List.drop_eq_getElem_cons F,f];rfl
set_option maxRecDepth 100000 in
set_option maxHeartbeats 4000000 in
theorem Zcj (l:List Int) (v:Value) (B:Nat) (w:World) (hB:B<=w.heap.size) (Q:Zal 1 Zkk B w v l) :
  Calls Tryz.prog 34 #[v] w fun e w'=>e=.returned (.int .i64 (Zah l))/\w'=w:=by
 obtain ⟨a,c,rfl,H,X,G⟩:=Q
 have P:=Za G
 obtain ⟨n,hn⟩:∃ n,l.length=n:=⟨_,rfl⟩
 have E:=Za hn
 rw [hn] at H |-
 obtain ⟨z,d⟩:∃ r,Zah l=r:=⟨_,rfl⟩
 have M:=Za d
 rw [d]
 clear G hn d
 go_enter Tryz.func34,Tryz.ntmps34
 go_wp2_with fail
 go_loopw [3,8] (fun s i wr=>∃ (t:Int) (j:Nat),j<=n/\s=.int .i64 t/\i=.int .i64 j/\0<=t/\t<=4611686018427387904/\Zsm t (l.drop j)=z/\wr=w) (fun _ i _=>n - (intOf i).toNat)
 case atStart=>exact ⟨0,0,Nat.zero_le _,rfl,rfl,by omega,by omega,M.out,rfl⟩
 case round =>
  obtain ⟨t,j,F,rfl,rfl,U,S,o,rfl⟩:=hrel
  have u:=Za o
  clear o
  by_cases hlt:j<n
  ·have k:(j:Int)<n:=by omega
   obtain ⟨x,f⟩:∃ q,l[j]?=some q:=⟨_,List.getElem?_eq_getElem (by have:=E.out;omega)⟩
   obtain ⟨bl,off,rfl,R,D⟩:=P.out.resolve_left (by intro e;rw [e] at f;simp at f)
   have N:=D j x f 0 _ rfl
   rw [Nat.mul_one,Nat.add_zero] at N
   have p:=Jbv (t:=t) f
   rw [u.out] at p
   have p:=Za p
   clear f D
   have A:=Zhq x
   have C:=Zsl x
   have I:=Za (fun W=>Zi4 x W)
   obtain ⟨T,g⟩:∃ q,Ze2 x=q:=⟨_,rfl⟩
   rw [g] at p A C
   rw [g] at I
   clear g
   go_wp2_with (go_at_call 52;refine (I.out _).mono ?_;rintro e _ ⟨rfl,rfl⟩)
   go_roundw
   case rel=>exact ⟨_,j+1,by omega,rfl,by go_num,by split<;>omega,by split<;>omega,p.out.symm,trivial⟩
   case measure=>simp [intOf];omega
  ·have V:Hid (z=t):=by
    show _=_
    rw [<- u.out,List.drop_of_length_le (by have:=E.out;omega)]
    rfl
   have k:¬ (j:Int)<n:=by omega
   go_wp2_with fail
   go_ret
   exact ⟨by rw [V.out];rfl,rfl⟩
def Zbl (a b:Int):Int:=(Ze2 a+((if Ze2 b<1 then 1 else Ze2 b) - 1)) / (if Ze2 b<1 then 1 else Ze2 b)
set_option maxRecDepth 100000 in
set_option maxHeartbeats 4000000 in
theorem Zio (a b:Int) (w:World):Calls Tryz.prog 32 #[.int .i64 a,.int .i64 b] w fun e w'=>e=.returned (.int .i64 (Zbl a b))/\w'=w:=by
 have Y:=Zhq a
 have H:=Zsl a
 have k0:=Zhq b
 have k1:=Zsl b
 have K:=Za (fun W=>Zi4 a W)
 have L:=Za (fun W=>Zi4 b W)
 unfold Zbl
 generalize Ze2 a=x at *
 generalize Ze2 b=y at *
 obtain ⟨m,hm⟩:∃ m,(if y<1 then 1 else y)=m:=⟨_,rfl⟩
 have O:1<=m:=by rw [<- hm];split<;>omega
 have hm2:m<=4611686018427387904:=by rw [<- hm];split<;>omega
 rw [hm]
 go_enter Tryz.func32,Tryz.ntmps32
 go_wp2_with (first | (go_at_call_of 52 a;refine (K.out _).mono ?_;rintro e _ ⟨rfl,rfl⟩) | (go_at_call_of 52 b;refine (L.out _).mono ?_;rintro e _ ⟨rfl,rfl⟩))
 go_ret
 exact ⟨rfl,rfl⟩
end Go.Proofs.YthfilnflgahcjaaGreatDoor

namespace Go.Proofs.YthfilnflgahcjaaGreatDoor
open Go.RowKit Go.Shelf Go.Maps
set_option linter.all false
def Zap (s:ByteArray):List Value:=[.string s]
def Zke (s:ByteArray):Value:=.string s
def okS (s:ByteArray):Prop:=s.size<=maxLen
theorem Jay:Znc 9 Zke okS:=⟨string_keyed Tryz.underlying9,fun x e=>⟨.string x.data.toList,by simp [keyOf,Tryz.underlying9,mapKey,Zke];exact e⟩,fun x y h=>by injection h⟩
theorem Zn9 (w:World):(zeroValue 164).run Tryz.prog w=.ok (.agg #[]) w:=by kernel_rfl
theorem Zhb:Tryz.prog.underlying 163=some (.map 9 164):=by kernel_rfl
theorem Zpx:Tryz.prog.underlying 170=some (.map 66 164):=by kernel_rfl
theorem Zpy:Tryz.prog.underlying 200=some (.map 64 164):=by kernel_rfl
def Za0 (x:ByteArray × Int):List Value:=[.string x.1,.int .i64 x.2]
def Zhy (x:ByteArray × Int):Value:=.agg #[.string x.1,.int .i64 x.2]
def okL (x:ByteArray × Int):Prop:=okS x.1/\W64 x.2
abbrev Zae:=ByteArray × ByteArray × Bool × Int
def Zc7 (x:Zae):List Value:=[.string x.1,.string x.2.1,.bool x.2.2.1,.int .i64 x.2.2.2]
def Zhc (x:Zae):Value:=.agg #[.string x.1,.string x.2.1,.bool x.2.2.1,.int .i64 x.2.2.2]
def okE (x:Zae):Prop:=okS x.1/\okS x.2.1/\W64 x.2.2.2
def Zhz (x:Zae):Zae:=(x.1,x.2.1,x.2.2.1,0)
abbrev Zav:=ByteArray × ByteArray × Int × Int
def Zd3 (x:Zav):List Value:=[.string x.1,.string x.2.1,.int .i64 x.2.2.1,.int .i64 x.2.2.2]
def Zfw (x:Zav):Value:=.agg #[.string x.1,.string x.2.1,.int .i64 x.2.2.1,.int .i64 x.2.2.2]
def okK (x:Zav):Prop:=okS x.1/\okS x.2.1/\W64 x.2.2.1/\W64 x.2.2.2
def Zic (x:Zav):Zav:=(x.1,x.2.1,0,0)
theorem Zcg:W64 0:=w64 (by omega) (by omega)
theorem Zi8 {a b:Array Value} (h:Value.agg a=Value.agg b):a.toList=b.toList:=by injection h with h;rw [h]
theorem Jfh:Znc 64 Zhc okE:=⟨Keyed.of_law Jh8,fun x e=>Jh9 _ _ _ _ e.1 e.2.1 e.2.2,fun x y h=>by
 obtain ⟨a,b,c,d⟩:=x
 obtain ⟨i,g,k,j⟩:=y
 have:=Zi8 h
 simp at this
 obtain ⟨rfl,rfl,rfl,rfl⟩:=this
 rfl⟩
theorem Jeu:Znc 66 Zfw okK:=⟨Keyed.of_law Jia,fun x e=>Jib _ _ _ _ e.1 e.2.1 e.2.2.1 e.2.2.2,fun x y h=>by
 obtain ⟨a,b,c,d⟩:=x
 obtain ⟨i,g,k,j⟩:=y
 have:=Zi8 h
 simp at this
 obtain ⟨rfl,rfl,rfl,rfl⟩:=this
 rfl⟩
theorem Jhq:Znc 42 Zhy okL:=⟨Keyed.of_law Jh4,fun x e=>Jh5 _ _ e.1 e.2,fun x y h=>by
 obtain ⟨a,b⟩:=x
 obtain ⟨i,g⟩:=y
 have:=Zi8 h
 simp at this
 obtain ⟨rfl,rfl⟩:=this
 rfl⟩
theorem Ji4:Znc 62 Zhy okL:=⟨Keyed.of_law Jh6,fun x e=>Jh7 _ _ e.1 e.2,Jhq.inj⟩
theorem Ztq:Zge 28 42 2 24 (.agg #[.string ⟨#[]⟩,.int .i64 0]):=Zhp (by kernel_rfl) (by kernel_rfl) rfl (by decide) (by decide)
theorem Ztr:Zge 29 62 2 24 (.agg #[.string ⟨#[]⟩,.int .i64 0]):=Zhp (by kernel_rfl) (by kernel_rfl) rfl (by decide) (by decide)
theorem Zpz:Zge 30 64 4 48 (.agg #[.string ⟨#[]⟩,.string ⟨#[]⟩,.bool false,.int .i64 0]):=Zhp (by kernel_rfl) (by kernel_rfl) rfl (by decide) (by decide)
theorem Zts:Zge 31 66 4 48 (.agg #[.string ⟨#[]⟩,.string ⟨#[]⟩,.int .i64 0,.int .i64 0]):=Zhp (by kernel_rfl) (by kernel_rfl) rfl (by decide) (by decide)
theorem Jco:Zge 44 2 1 8 (.int .i64 0):=Zhp (by kernel_rfl) (by kernel_rfl) rfl (by decide) (by decide)
theorem Zek:Zge 43 9 1 16 (.string ⟨#[]⟩):=Zhp (by kernel_rfl) (by kernel_rfl) rfl (by decide) (by decide)
theorem Zf9 (x:ByteArray × Int):∀ u ∈ Za0 x,u.oneCell'=true:=fun u f=>by simp only [Za0,List.mem_cons,List.not_mem_nil,or_false] at f;rcases f with rfl | rfl<;>rfl
theorem Zla (x:Zae):∀ u ∈ Zc7 x,u.oneCell'=true:=fun u f=>by simp only [Zc7,List.mem_cons,List.not_mem_nil,or_false] at f;rcases f with rfl | rfl | rfl | rfl<;>rfl
theorem Zoa (x:Zav):∀ u ∈ Zd3 x,u.oneCell'=true:=fun u f=>by simp only [Zd3,List.mem_cons,List.not_mem_nil,or_false] at f;rcases f with rfl | rfl | rfl | rfl<;>rfl
theorem Zxk (x:Int):∀ u ∈ Zkk x,u.oneCell'=true:=fun u f=>by simp only [Zkk,List.mem_cons,List.not_mem_nil,or_false] at f;rw [f];rfl
theorem Zcr (x:ByteArray):∀ u ∈ Zap x,u.oneCell'=true:=fun u f=>by simp only [Zap,List.mem_cons,List.not_mem_nil,or_false] at f;rw [f];rfl
end Go.Proofs.YthfilnflgahcjaaGreatDoor

namespace Go.Proofs.YthfilnflgahcjaaGreatDoor
open Go.RowKit Go.Shelf
set_option linter.all false
section
variable {R K:Type} [DecidableEq K]
def Zy (key:R->K):List R->List K->List R × List K
 | [],left=>([],left)
 | r::rs,left=>if left=[] then ([],[]) else if key r ∈ left then (r::(Zy key rs (Zl8 (key r) left)).1,(Zy key rs (Zl8 (key r) left)).2) else Zy key rs left
def Ji (key:R->K) (zero:R) (a:List R) (keys:List K):List R :=
 (Zy key a (keys.foldl Zhs [])).1++List.replicate (Zy key a (keys.foldl Zhs [])).2.length zero
theorem Zcz {key:R->K}:∀ (a:List R),Zy key a []=([],[])
 | []=>rfl
 | r::rs=>by rw [Zy,if_pos rfl]
theorem Zew {key:R->K} {a:List R} {left:List K} {j:Nat} {r:R} (h:a[j]?=some r) (hl:left≠[]) (hm:key r ∈ left):Zy key (a.drop j) left=(r::(Zy key (a.drop (j+1)) (Zl8 (key r) left)).1,(Zy key (a.drop (j+1)) (Zl8 (key r) left)).2):=by
 obtain ⟨b,c⟩:=List.getElem?_eq_some_iff.1 h
 rw [List.drop_eq_getElem_cons b,c,Zy,if_neg hl,if_pos hm]
theorem Za5 {key:R->K} {a:List R} {left:List K} {j:Nat} {r:R} (h:a[j]?=some r) (hl:left≠[]) (hm:key r ∉ left):Zy key (a.drop j) left=Zy key (a.drop (j+1)) left:=by
 obtain ⟨b,c⟩:=List.getElem?_eq_some_iff.1 h
 rw [List.drop_eq_getElem_cons b,c,Zy,if_neg hl,if_neg hm]
theorem Zdl {key:R->K}:∀ (a:List R) (left:List K),(Zy key a left).1.length+(Zy key a left).2.length=left.length
 | [],left=>by simp [Zy]
 | r::rs,left=>by
  rw [Zy]
  split
  ·rename_i h;simp [h]
  ·split
   ·rename_i hl hm
    have:=Zdl (key:=key) rs (Zl8 (key r) left)
    have:=Zg3 hm
    simp only [List.length_cons];omega
   ·exact Zdl rs left
theorem Zzt (l:List K) (k:K):(Zhs l k).length<=l.length+1:=by
 unfold Zhs
 split<;>simp
theorem Zex:∀ (ks:List K) (l:List K),(ks.foldl Zhs l).length<=l.length+ks.length
 | [],l=>by simp
 | k::r,l=>by
  have:=Zex r (Zhs l k)
  have:=Zzt l k
  simp only [List.foldl_cons,List.length_cons];omega
theorem Znp {ks:List K} {j:Nat} {k:K} (h:ks[j]?=some k):(ks.take (j+1)).foldl Zhs []=Zhs ((ks.take j).foldl Zhs []) k:=by
 rw [List.take_add_one,h]
 simp
theorem Zbo:∀ (ks:List K) (l:List K),l.Nodup->(ks.foldl Zhs l).Nodup
 | [],l,h=>h
 | k::r,l,h=>Zbo r _ (Zvy h k)
end
end Go.Proofs.YthfilnflgahcjaaGreatDoor

namespace Go.Proofs.YthfilnflgahcjaaGreatDoor
open Go.RowKit Go.Shelf
set_option linter.all false
attribute [local go_sem] Oper.semAt_some
theorem Zxa (s:ByteArray) (n:Int) (w:World):Calls Tryz.prog 56 #[.agg #[.string s,.int .i64 n]] w fun e w'=>e=.returned (.string s)/\Below w.heap.size w w':=by
 go_enter Tryz.func56,Tryz.ntmps56
 go_wp2
 go_ret
 exact ⟨rfl,(Below.refl _ _).alloc (Nat.le_refl _) _⟩
theorem Zrn (s:ByteArray) (n:Int) (w:World):Calls Tryz.prog 59 #[.agg #[.string s,.int .i64 n]] w fun e w'=>e=.returned (.string s)/\Below w.heap.size w w':=by
 go_enter Tryz.func59,Tryz.ntmps59
 go_wp2
 go_ret
 exact ⟨rfl,(Below.refl _ _).alloc (Nat.le_refl _) _⟩
theorem Jdq (s:ByteArray) (n:Int) (w:World):Calls Tryz.prog 60 #[.agg #[.string s,.int .i64 n]] w fun e w'=>e=.returned (.int .i64 n)/\Below w.heap.size w w':=by
 go_enter Tryz.func60,Tryz.ntmps60
 go_wp2
 go_ret
 exact ⟨rfl,(Below.refl _ _).alloc (Nat.le_refl _) _⟩
theorem Jaj (s t:ByteArray) (b:Bool) (n:Int) (w:World):Calls Tryz.prog 111 #[.agg #[.string s,.string t,.bool b,.int .i64 n]] w fun e w'=>e=.returned (.int .i64 n)/\Below w.heap.size w w':=by
 go_enter Tryz.func111,Tryz.ntmps111
 go_wp2
 go_ret
 exact ⟨rfl,(Below.refl _ _).alloc (Nat.le_refl _) _⟩
set_option maxHeartbeats 1000000 in
theorem Ztk (s t:ByteArray) (b:Bool) (n:Int) (w:World):Calls Tryz.prog 108 #[.agg #[.string s,.string t,.bool b,.int .i64 n]] w fun e w'=>e=.returned (.agg #[.string s,.string t,.bool b,.int .i64 0])/\Below w.heap.size w w':=by
 go_enter Tryz.func108,Tryz.ntmps108
 go_wp2
 refine bodyPost_ret (by simp [results,Tryz.results108,go_sem]) rfl ⟨rfl,((Below.refl _ _).alloc (Nat.le_refl _) _).alloc (by simp) _⟩
set_option maxHeartbeats 1000000 in
theorem Zxb (s t:ByteArray) (m n:Int) (w:World):Calls Tryz.prog 62 #[.agg #[.string s,.string t,.int .i64 m,.int .i64 n]] w fun e w'=>e=.returned (.agg #[.string s,.string t,.int .i64 0,.int .i64 0])/\Below w.heap.size w w':=by
 go_enter Tryz.func62,Tryz.ntmps62
 go_wp2
 refine bodyPost_ret (by simp [results,Tryz.results62,go_sem]) rfl ⟨rfl,((Below.refl _ _).alloc (Nat.le_refl _) _).alloc (by simp) _⟩
end Go.Proofs.YthfilnflgahcjaaGreatDoor

namespace Go.Proofs.YthfilnflgahcjaaGreatDoor
open Go.RowKit Go.Shelf
set_option linter.all false
theorem Zv2 {α:Type} {k:Nat} {z:Value} {enc:α->List Value} {x:α} (K:z.cells.toList=enc x) (hk:(enc x).length=k) (p:0<k):∀ m,(Builtin.zeroCells z.cells m).toList=((List.replicate m x).map enc).flatten:=by
 intro m
 have F:z.cells.size=k:=by rw [<- hk,<- K];simp
 refine List.ext_getElem? fun i=>?_
 have d:((List.replicate m x).map enc).flatten.length=m*k:=by
  rw [Zlk (k:=k) _ (fun c Y=>by obtain ⟨y,hy,rfl⟩:=List.mem_map.1 Y;rw [List.eq_of_mem_replicate hy];exact hk)]
  simp
 by_cases B:i<m*k
 ·have hq:i / k<m:=Nat.div_lt_of_lt_mul (by rwa [Nat.mul_comm] at B)
  have a6:i / k*k+i % k=i:=by rw [Nat.mul_comm];exact Nat.div_add_mod i k
  have e:=Zd6 (k:=k) ((List.replicate m x).map enc) (i / k) (i % k) (enc x) (fun c Y=>by obtain ⟨y,hy,rfl⟩:=List.mem_map.1 Y;rw [List.eq_of_mem_replicate hy];exact hk) (by simp [hq]) (Nat.mod_lt _ p)
  rw [a6] at e
  rw [e,<- K]
  have hm:i % k<z.cells.size:=by rw [F];exact Nat.mod_lt _ p
  simp only [Builtin.zeroCells,F,Array.toList_map,Array.toList_range,List.getElem?_map,List.getElem?_range B,Option.map_some,Array.getElem?_toList]
  rw [Array.getElem?_eq_getElem hm,getElem!_pos z.cells _ hm]
 ·rw [List.getElem?_eq_none (show (Builtin.zeroCells z.cells m).toList.length<=i by simp only [Builtin.zeroCells,Array.toList_map,Array.toList_range,List.length_map,List.length_range,F];omega),List.getElem?_eq_none (by rw [d];omega)]
theorem Zd8 {α:Type} {t tn e ty k bytes base m:Nat} {z:Value} (hE:Zge t e k bytes z) (q:Tryz.prog.underlying tn=some (.int .i64)) {enc:α->List Value} {x:α} (hk:∀ x,(enc x).length=k) (h1:∀ x,∀ u ∈ enc x,u.oneCell'=true) (a9:z.cells.toList=enc x) {v:Value} {xs:List α} {w:World} (f:Jb e k enc base w v xs) (hn:xs.length+m<=1000000) (hb:base<=w.heap.size) :
  ∃ R w',(Builtin.append_ #[t,tn] ty #[v,.int .i64 m]).run Tryz.prog w=.ok R w'/\Jb e k enc base w' R (xs++List.replicate m x)/\Below base w w':=by
 obtain ⟨ht,i,B,K,I,a4,a1,p,X⟩:=hE
 subst I a4
 have hw:IntKind.i64.wrap (m:Int)=m:=by rw [IntKind.wrap_i64];omega
 have U:IntKind.i64.wrap 0=0:=by rw [IntKind.wrap_i64];rfl
 have C:¬ ((m:Int)<0):=by omega
 have b2:m*i.bytes<=1000000*4096:=Nat.mul_le_mul (by omega) X
 have D:¬ (281474976710656<(m:Int)*(i.bytes:Int)):=by
  rw [<- Int.natCast_mul]
  omega
 obtain ⟨b,n⟩:∃ l,(Builtin.zeroCells z.cells m).toList=l:=⟨_,rfl⟩
 have T:=n.symm.trans (Zv2 a9 (hk x) p m)
 have s:b.length=m*i.size:=by rw [<- n];simp [Builtin.zeroCells,a1]
 have a7:∀ u ∈ b,u.oneCell'=true:=by
  intro u hu
  rw [T] at hu
  obtain ⟨c,Y,hu⟩:=List.mem_flatten.1 hu
  obtain ⟨y,hy,rfl⟩:=List.mem_map.1 Y
  exact h1 y u hu
 have Q:Builtin.zeroCells z.cells m=b.toArray:=by rw [<- n]
 have L:∀ {R:Value} {w':World},w'.ownsRow base e i.size R (xs.length+m) ((xs.map enc).flatten++b)->Jb e i.size enc base w' R (xs++List.replicate m x):=fun {R w'} h=>by
  unfold Jb
  rw [List.length_append,List.length_replicate,List.map_append,List.flatten_append,<- T]
  exact h
 have d:((xs.map enc).flatten++b).length=(xs.length+m)*i.size:=by rw [List.length_append,f.1,s,Nat.add_mul]
 have grown:∀ (old:Nat),old<xs.length+m ->
   (w.drew.alloc (.cells (((xs.map enc).flatten).toArray++b.toArray++Builtin.zeroCells z.cells (grownCap w (xs.length+m) old e - (xs.length+m))) e)).ownsRow base e i.size
    (.slice (some ⟨w.heap.size,0,none⟩) (xs.length+m) (grownCap w (xs.length+m) old e)) (xs.length+m) ((xs.map enc).flatten++b):=by
  intro old ho
  have a0:=grownCap_ge w (xs.length+m) old e
  have G:grownCap w (xs.length+m) old e<=maxLen:=grownCap_le_maxLen w (xs.length+m) old e (by unfold maxLen;omega)
  refine ⟨d,.inr ⟨w.heap.size,_,_,rfl,hb,heap_alloc_new w.drew _,a0,G,?_,?_⟩⟩
  ·simp only [Array.size_append,List.size_toArray,size_zeroCells,a1,f.1,s,<- Nat.add_mul]
   rw [Nat.add_sub_cancel' a0]
  ·simp only [Array.toList_append,List.append_assoc]
   rw [<- List.append_assoc,<- d]
   exact List.take_left
 have up:∀ o,Below base w (w.drew.alloc o):=fun o=>((Below.refl base w).drew).alloc hb o
 rcases f.2 with ⟨rfl,b0⟩ | ⟨g,cap,r,rfl,a8,hg,a5,G,b1,O⟩
 ·have hx:xs=[]:=List.eq_nil_of_length_eq_zero b0
  subst hx
  by_cases hm:m=0
  ·subst hm
   refine ⟨.slice none 0 0,w,?_,Jo _ _ _ _ _,Below.refl _ _⟩
   simp [Builtin.append_,run_underlying ht,run_underlying q,sizeOf,typeInfo,B,asInt,asIntOf,U]
  ·have hr:=Lib.run_append_nil_zeros (P:=Tryz.prog) w t tn ty e i z .i64 .i64 ht q B K m (by omega) p (by omega) (by omega)
   have S:=grown 0 (by simp;omega)
   simp only [List.length_nil,Nat.zero_add,List.map_nil,List.flatten_nil,List.nil_append,Array.empty_append] at S
   rw [Q] at hr
   refine ⟨_,_,hr,L ?_,up _⟩
   simpa using S
 ·by_cases hroom:xs.length+m<=cap
  ·have E:xs.length*i.size+b.length<=r.size:=by rw [s,b1,<- Nat.add_mul];exact Nat.mul_le_mul_right _ hroom
   have M:=run_storeCells_at Tryz.prog g (xs.length*i.size) e b 0 r w hg (by simpa using E) a7
   simp only [Nat.add_zero] at M
   have hr:(Builtin.append_ #[t,tn] ty #[.slice (some ⟨g,0,none⟩) xs.length cap,.int .i64 m]).run Tryz.prog w=.ok (.slice (some ⟨g,0,none⟩) (xs.length+m) cap) (w.setRow g (r.toList.take (xs.length*i.size)++b++r.toList.drop (xs.length*i.size+b.length)).toArray):=by
    by_cases hm:m=0
    ·subst hm
     have a2:b=[]:=List.eq_nil_of_length_eq_zero (by rw [s,Nat.zero_mul])
     subst a2
     simp [Builtin.append_,run_underlying ht,run_underlying q,sizeOf,typeInfo,zeroValue,B,K,asInt,asIntOf,U,a5,Addr.add_lit,M]
    ·have H:¬ (m*i.size=0):=Nat.mul_ne_zero hm (by omega)
     simp [Builtin.append_,run_underlying ht,run_underlying q,sizeOf,typeInfo,zeroValue,B,K,asInt,asIntOf,hw,C,H,D,hroom,Q,Addr.add_lit,M]
   refine ⟨_,_,hr,L ⟨d,.inr ⟨g,cap,_,rfl,a8,setRow_heap w g r _ e _ hg,hroom,G,?_,?_⟩⟩,⟨rfl,rfl,rfl,by simp,fun k hk=>setRow_other w g k _ (by omega)⟩⟩
   ·simp only [List.size_toArray,List.length_append,List.length_take,List.length_drop,Array.length_toList]
    omega
   ·rw [O,<- d]
    exact List.take_left
  ·have N:∀ j u,((xs.map enc).flatten)[j]?=some u->w.cell? ((⟨g,0,none⟩:Addr).add j)=some u:=World.ownsRow.cells (g:=g) f rfl
   have hm:¬ m=0:=by omega
   have H:¬ (m*i.size=0):=Nat.mul_ne_zero hm (by omega)
   have W:¬ (9223372036854775807<((xs.length:Int)+(m:Int))):=by omega
   have E:=growslice_fits (need:=xs.length+m) (old:=cap) (bytes:=i.bytes) (by omega) (Nat.le_trans (Nat.mul_le_mul hn X) (by decide))
   have V:¬ (281474976710656<Builtin.nextslicecap (xs.length+m) cap*i.bytes):=by omega
   have a3:=run_firstCells_some (P:=Tryz.prog) w.drew i.size xs.length ⟨g,0,none⟩ xs.length cap _ f.1 (by simpa using N)
   have hr:(Builtin.append_ #[t,tn] ty #[.slice (some ⟨g,0,none⟩) xs.length cap,.int .i64 m]).run Tryz.prog w=.ok (.slice (some ⟨w.heap.size,0,none⟩) (xs.length+m) (grownCap w (xs.length+m) cap e)) (w.drew.alloc (.cells (((xs.map enc).flatten).toArray++b.toArray++Builtin.zeroCells z.cells (grownCap w (xs.length+m) cap e - (xs.length+m))) e)):=by
    simp [Builtin.append_,run_underlying ht,run_underlying q,sizeOf,typeInfo,zeroValue,B,K,asInt,asIntOf,hw,C,H,D,hroom,W,V,Question.forced,Q,a3,newRow,grownCap]
    exact congrArg (fun a=>w.drew.alloc (.cells a e)) (by apply Array.ext';simp [List.append_assoc])
   exact ⟨_,_,hr,L (grown cap (by omega)),up _⟩
end Go.Proofs.YthfilnflgahcjaaGreatDoor

