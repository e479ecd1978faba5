/- Small things that the texts of this seat stand on. A range over a function whose rounds may panic: one round, out of its body's walk. Small things of worlds and cells. Values as trees, and how a tree lies in memory. Going over a value: walk, within, and what a round must keep. A value is weighed: too great a one gives up. -/
import Derived.Test.YthfilnflgahcjaaGreatDoorRows
import Derived.BigQuiet
import Derived.Deep.QuietTactic
import Derived.Laws.Bits128
import Derived.Laws.MathBits
import Derived.Maps.AppendAt
import Derived.WalkKit
import Derived.WalkLawsBesides
import Derived.WalkMore
import Derived.WalkSmall
import Derived.WalkSpells
import Derived.RangeFuncKeeps
import Derived.RangeFuncBound
import Derived.RangeFuncCalls
import Derived.RangeFuncNested
import Derived.RangeFuncBox
import Derived.Shelf.Abstract
import Derived.Shelf.RegionOpen
import Derived.OwnWalkIn
import Derived.TacticsInMore
import Derived.LoopNIn
import Derived.LoopIn
import Derived.Orders
import Derived.Below
import Derived.RangeFuncRecord
import Derived.Deep.RegionWith
namespace Go.Proofs.YthfilnflgahcjaaGreatDoor
open Go.RowKit
set_option linter.all false
theorem Zm {w w1 w2:World} (h:Below w.heap.size w w1) (k:Below w1.heap.size w1 w2):Below w.heap.size w w2:=h.trans (k.mono h.size)
end Go.Proofs.YthfilnflgahcjaaGreatDoor

namespace Go.Proofs.YthfilnflgahcjaaGreatDoor
open Go.RowKit
set_option linter.all false
variable {F:Fence} {n:Nat} {P:Program}
def Zc4 (r:Loop):Loop:={ r with state:=.busy }
def Zfl (r:Loop):Loop:={ r with state:=.ready,pending:=none }
def Zng (r:Loop) (c:Code):Loop:={ r with state:=.done,pending:=some c }
def Zs0 (r:Loop):Loop:={ r with state:=.exhausted }
def Jgl (P:Program) (l:Nat) (f:Loop) (R:Ending->World->Prop):Exit->Act->World->Prop
 | .normal,_,W=>W.heap[l]?=some (.loop (Zc4 f))/\R (.returned (.bool true)) (W.putObj l (.loop (Zfl f)))
 | .ret,_,W=>W.heap[l]?=some (.loop (Zc4 f))/\R (.returned (.bool false)) (W.putObj l (.loop (Zng f .ret)))
 | .exit id,_,W=>W.heap[l]?=some (.loop (Zc4 f))/\R (.returned (.bool false)) (W.putObj l (.loop (Zng f (.exit id))))
 | .panic ch,a,W=>a.defers=[]/\(∃ fn,P.funcs[f.fn]?=some fn)/\R (.panicked ch) W
 | _,_,_=>False
theorem Zhw {l:Nat} {f:Loop} {W:World} {args:Array Value} {R:Ending->World->Prop} {assign body:Code} {tmps:Array Value} {params:Array Tmp} (m:F.fn f.fn) (ea:assign=f.assign) (eb:body=f.body) (et:tmps=f.tmps) (ep:params=f.params)
  (hl:W.heap[l]?=some (.loop f)) (K:f.state=.ready) (a0:args.size=f.params.size)
  (G:assign.wpIn (F.inRound l) n P (Exit.then (fun a₁ W₁=>W₁.heap[l]?=some (.loop f)/\body.wpIn (F.inRound l) n P (Jgl P l f R) a₁ (W₁.putObj l (.loop (Zc4 f)))) (fun _ _ _=>False))
   { tmps:=(params.zip args).foldl (fun tmps (t,a)=>tmps.setIfInBounds t a) tmps,defers:=[] } W) :
  YieldAt F n P l args W R:=by
 subst ea eb et ep
 refine ⟨f.fn,_,f.assign,f.body,run_yield hl a0,m,fun c cs hr=>?_⟩
 have x:(F.inRound l).room ((c::cs).length+1+n):=hr
 obtain ⟨e,a,w,y,S⟩:=G { (default:Frame) with fn:=f.fn,kind:=.normal,roundOf:=some l } [.beginRound,.code f.body] (c::cs) rfl m x
 cases e with
 | normal =>
  obtain ⟨a3,M⟩:=y
  have s0:=StepsIn.one (I:=Machine.fenced P (F.inRound l)) (fenced_calm (fr:=Frame.atR { (default:Frame) with fn:=f.fn,kind:=.normal,roundOf:=some l } a [.beginRound,.code f.body]) m x rfl)
   (stepR_beginRound (P:=P) (b:={ (default:Frame) with fn:=f.fn,kind:=.normal,roundOf:=some l }) (a:=a) (k:=[.code f.body]) (cs:=c::cs) rfl (run_beginRound a3 K))
  obtain ⟨e,a2,w2,y,q⟩:=M { (default:Frame) with fn:=f.fn,kind:=.normal,roundOf:=some l } [] (c::cs) rfl m x
  have H:=StepsIn.trans S s0
  cases e with
  | normal =>
   obtain ⟨z,E⟩:=y
   have s:=run_endRound (P:=P) none z
   exact ⟨_,_,E,H.trans (StepsIn.trans q (.one (fenced_calm m x rfl) (stepR_round_end rfl rfl s)))⟩
  | ret =>
   obtain ⟨z,E⟩:=y
   have s:=run_endRound (P:=P) (some .ret) z
   obtain ⟨k1,L⟩:=q.2 rfl
   exact ⟨_,_,E,H.trans (StepsIn.trans L (.one (fenced_calm m x rfl) (stepR_round_ret rfl rfl s)))⟩
  | exit id =>
   obtain ⟨z,E⟩:=y
   have s:=run_endRound (P:=P) (some (.exit id)) z
   obtain ⟨k1,hk,L⟩:=q.2 rfl rfl
   exact ⟨_,_,E,H.trans (StepsIn.trans L (.one (fenced_calm m x rfl) (stepR_round_exit rfl rfl hk s)))⟩
  | panic ch =>
   obtain ⟨z,⟨fn,T⟩,E⟩:=y
   obtain ⟨a4,L⟩:=q
   refine ⟨.panicked ch,w2,E,H.trans (StepsIn.trans L (.one ?_ (step_leave_panicked ⟨rfl,z,fn,T⟩)))⟩
   exact fenced_leaving (e:=.panicked ch) m x ⟨rfl,z,fn,T⟩
  | goto t=>exact y.elim
  | outgrown=>exact y.elim
 | exit id=>exact y.elim
 | goto t=>exact y.elim
 | ret=>exact y.elim
 | panic ch=>exact y.elim
 | outgrown=>exact y.elim
def behind (F:Fence) (n:Nat) (P:Program) (l:Nat) (Q:Exit->Act->World->Prop) (a:Act):Ending->World->Prop
 | .returned _,W=>∃ f:Loop,W.heap[l]?=some (.loop f)/\f.state≠.busy /\
   (match f.pending with
     | none=>Q .normal a (W.putObj l (.loop (Zs0 f)))
     | some c=>c.wpIn F n P Q a (W.putObj l (.loop (Zs0 f))))
 | .panicked ch,W=>Q (.panic ch) a W
 | .outgrown,_=>False
theorem Zov {g:Operand} {Y:Array Tmp} {assign body:Code} {Q:Exit->Act->World->Prop} {a:Act} {w:World} (X:F.round=none) (hn:F.depth=none)
  {gf:Nat} {lb:Array Value} (hg:a.eval g=.func (.func gf) #[] lb) (a1:F.fn gf) (eg:∀ args w,(callFunc gf args).run P w=.ok (.enter gf args) w)
  (h:∀ fn,F.fn fn->CallsIn F (n - 1) P gf (#[.func (.yield (w.heap.size+1)) #[] #[]]++lb)
   ((w.alloc (.deferred (some []))).alloc (.loop { state:=.ready,pending:=none,fn,tmps:=a.tmps,params:=Y,assign,body,defers:=w.heap.size }))
   (behind F n P (w.heap.size+1) Q { a with defers:={ target:=.collected w.heap.size,args:=#[] }::a.defers })) :
  (Code.rangeFunc g Y assign body).wpIn F n P Q a w:=by
 refine wpIn_rangeFunc fun fn m=>?_
 refine ⟨_,_,_,{ target:=.fn (.func gf) lb,args:=#[.func (.yield (w.heap.size+1)) #[] #[]] },
  (w.alloc (.deferred (some []))).alloc (.loop { state:=.ready,pending:=none,fn,tmps:=a.tmps,params:=Y,assign,body,defers:=w.heap.size }),gf,_,_,(by rw [X];exact run_enterLoop_outer _ _ _ _ _),?_,?_,?_,fun L=>(by rw [hn] at L;cases L),(h fn m).mono ?_⟩
 ·simp only [resolve,hg];simp [go_sem]
 ·intro f' O;simp [Target.leads] at O;subst O;exact a1
 ·simp [invoke,go_sem,eg]
 ·rintro e W hb
  cases e with
  | returned v =>
   obtain ⟨f,z,E,h3⟩:=hb
   refine ⟨f.pending,_,run_endLoop z E,?_⟩
   have e:(Zs0 f)={ f with state:=.exhausted }:=rfl
   rw [e] at h3
   cases U:f.pending<;>simp only [U] at h3 |-<;>exact h3
  | panicked ch=>exact hb
  | outgrown=>exact hb.elim
structure Zda (C:Nat) (W N:World):Prop where
 size:W.heap.size<=N.heap.size
 block:∀ k,C<=k->k<W.heap.size->N.heap[k]?=W.heap[k]?
theorem Zda.refl (C:Nat) (W:World):Zda C W W:=⟨Nat.le_refl _,fun _ _ _=>rfl⟩
theorem Zda.trans {C:Nat} {A B D:World} (h:Zda C A B) (k:Zda C B D):Zda C A D :=
 ⟨Nat.le_trans h.size k.size,fun i V hl=>(k.block i V (Nat.lt_of_lt_of_le hl h.size)).trans (h.block i V hl)⟩
theorem Zda.of_below {C B:Nat} {A D:World} (h:Below B A D) (hB:A.heap.size<=B):Zda C A D:=⟨h.size,fun i _ hl=>h.block i (by omega)⟩
theorem Zda.cell {C:Nat} {W N:World} (h:Zda C W N) {p:Addr} (z:C<=p.block) (E:p.block<W.heap.size):N.cell? p=W.cell? p:=World.cell?_of_block (h.block _ z E)
theorem Zda.alloc {C:Nat} {A D:World} (h:Zda C A D) (o:Obj):Zda C A (D.alloc o):=h.trans ⟨by simp,fun k _ hl=>Below.heap_alloc _ _ _ hl⟩
theorem Jt (w:World) (o:Obj) (k:Nat):(w.alloc o).heap[k]?=if k=w.heap.size then some o else w.heap[k]?:=by
 show (w.heap.push o)[k]?=_
 rw [Array.getElem?_push]
structure But (i:Nat) (A B:World):Prop where
 os:B.os=A.os
 tape:B.tape=A.tape
 output:B.output=A.output
 size:B.heap.size=A.heap.size
 block:∀ k,k≠i->B.heap[k]?=A.heap[k]?
theorem But.refl (i:Nat) (A:World):But i A A:=⟨rfl,rfl,rfl,rfl,fun _ _=>rfl⟩
theorem But.setCell {i:Nat} {A B:World} (h:But i A B) {p:Addr} (U:p.block=i) (u:Value):But i A (B.setCell p u) :=
 ⟨h.os,h.tape,h.output,(by simp [World.setCell,h.size]),fun k hk=>(Below.heap_setCell _ _ _ _ (by omega)).trans (h.block k hk)⟩
theorem But.cell {i:Nat} {A B:World} (h:But i A B) {p:Addr} (U:p.block≠i):B.cell? p=A.cell? p:=World.cell?_of_block (h.block _ U)
theorem But.below {i n:Nat} {w A B:World} (h:But i A B) (k:Below n w A) (V:n<=i):Below n w B :=
 ⟨h.os.trans k.os,h.tape.trans k.tape,h.output.trans k.output,(by rw [h.size];exact k.size),fun j hj=>(h.block j (by omega)).trans (k.block j hj)⟩
theorem But.putObj {A:World} (i:Nat) (o:Obj):But i A (A.putObj i o):=⟨rfl,rfl,rfl,(by simp),fun k hk=>World.putObj_heap_other hk⟩
theorem Zq0 {F:Fence} (hd:F.depth=none) (k:Nat):F.room k:=fun d h=>by rw [hd] at h;cases h
theorem Zg5 {F:Fence} (hd:F.depth=none) (k:Nat):(F.depth.isSome=true->1<=k):=fun h=>by rw [hd] at h;cases h
end Go.Proofs.YthfilnflgahcjaaGreatDoor

namespace Go.Proofs.YthfilnflgahcjaaGreatDoor
open Go.RowKit Go.Shelf
set_option linter.all false
theorem Za {p:Prop} (h:p):Hid p:=h
theorem Jj {w:World} {p:Addr} {v:Value} (h:w.cell? p=some v):p.block<w.heap.size:=by
 obtain ⟨o,d,_⟩:=cells_of_cell h
 exact (Array.getElem?_eq_some_iff.1 d).1
theorem Zar {B:Nat} {w w':World} (h:Below B w w') (hB:w.heap.size<=B) {p:Addr} {v:Value} (c:w.cell? p=some v):w'.cell? p=some v :=
 (h.cell (p:=p) (Nat.lt_of_lt_of_le (Jj c) hB)).trans c
theorem Zh (W:World) (cs:Array Value) (ty:TypeId) (i:Nat) (v:Value) (h:cs[i]?=some v):(W.alloc (.cells cs ty)).cell? ⟨W.heap.size,i,none⟩=some v:=by
 have e:=World.alloc_heap_new W (.cells cs ty)
 unfold World.cell?
 simp only [e,h]
 rfl
theorem Zs {a b:Int} (h:a≠b):(a==b)=false:=beq_eq_false_iff_ne.2 h
theorem Za3 {a b:Int} (h:a=b):(a==b)=true:=beq_iff_eq.2 h
end Go.Proofs.YthfilnflgahcjaaGreatDoor

namespace Go.Proofs.YthfilnflgahcjaaGreatDoor
open Go.RowKit
set_option linter.all false
inductive Zd where
 | mk (k:Int) (b:Bool) (n:Int) (s:ByteArray) (ks:List ByteArray) (ts:List Zd)
theorem Zd.ind {p:Zd->Prop} (h:∀ k b n s ks ts,(∀ t ∈ ts,p t)->p (.mk k b n s ks ts)):∀ T,p T
 | .mk k b n s ks ts=>h k b n s ks ts fun t ht=>Zd.ind h t
termination_by T=>SizeOf.sizeOf T
decreasing_by
 have:=List.sizeOf_lt_of_mem ht
 simp
 omega
def Zd.kind:Zd->Int | .mk k _ _ _ _ _=>k
def Zd.text:Zd->ByteArray | .mk _ _ _ s _ _=>s
def Zd.keys:Zd->List ByteArray | .mk _ _ _ _ ks _=>ks
def Zd.kids:Zd->List Zd | .mk _ _ _ _ _ ts=>ts
def Zbh (B:Nat) (w:World) (C:Option Addr) (ks:List ByteArray):Prop :=
 ks=[]\/∃ b off,C=some ⟨b,off,none⟩/\b<B/\∀ i,i<ks.length->w.cell? ⟨b,off+i,none⟩=some (.string (ks.getD i ⟨#[]⟩))/\(ks.getD i ⟨#[]⟩).size<=maxLen
mutual
def Zb6 (B:Nat) (w:World):Value->Zd->Prop
 | v,.mk k b n s ks ts=>∃ ka kc la lc,v=.agg #[.int .i64 k,.bool b,.int .i64 n,.string s,.slice ka ks.length kc,.slice la ts.length lc] /\
   (s.size<=maxLen/\ks.length<=kc/\kc<=maxLen/\ts.length<=lc/\lc<=maxLen)/\Zbh B w ka ks/\(ts=[]\/∃ bl off,la=some ⟨bl,off,none⟩/\bl<B/\KidsLie B w bl off ts)
def KidsLie (B:Nat) (w:World) (bl:Nat):Nat->List Zd->Prop
 | _,[]=>True
 | off,t::ts=>(∃ j l v2 g o m,(w.cell? ⟨bl,off,none⟩=some j/\w.cell? ⟨bl,off+1,none⟩=some l/\w.cell? ⟨bl,off+2,none⟩=some v2/\w.cell? ⟨bl,off+3,none⟩=some g /\
   w.cell? ⟨bl,off+4,none⟩=some o/\w.cell? ⟨bl,off+5,none⟩=some m)/\Zb6 B w (.agg #[j,l,v2,g,o,m]) t)/\KidsLie B w bl (off+6) ts
end
mutual
theorem Zb6.below {B:Nat} {w w':World} (h:Below B w w'):∀ {v:Value} {T:Zd},Zb6 B w v T->Zb6 B w' v T
 | v,.mk k b n s ks ts,hl=>by
  simp only [Zb6] at hl |-
  obtain ⟨ka,kc,la,lc,q,hb,hk,ht⟩:=hl
  refine ⟨ka,kc,la,lc,q,hb,?_,?_⟩
  ·rcases hk with hk | ⟨y,off,e,c,f⟩
   ·exact .inl hk
   ·exact .inr ⟨y,off,e,c,fun i A=>⟨(h.cell (p:=⟨y,off+i,none⟩) c).trans (f i A).1,(f i A).2⟩⟩
  ·rcases ht with ht | ⟨bl,off,e,c,f⟩
   ·exact .inl ht
   ·exact .inr ⟨bl,off,e,c,KidsLie.below h c f⟩
theorem KidsLie.below {B:Nat} {w w':World} (h:Below B w w') {bl:Nat} (c:bl<B):∀ {off:Nat} {ts:List Zd},KidsLie B w bl off ts->KidsLie B w' bl off ts
 | off,[],hl=>by simp only [KidsLie]
 | off,t::ts,hl=>by
  simp only [KidsLie] at hl |-
  obtain ⟨⟨j,l,v2,g,o,m,⟨c0,c1,c2,c3,c4,c5⟩,q⟩,hr⟩:=hl
  exact ⟨⟨j,l,v2,g,o,m,⟨(h.cell (p:=⟨bl,off,none⟩) c).trans c0,(h.cell (p:=⟨bl,off+1,none⟩) c).trans c1,(h.cell (p:=⟨bl,off+2,none⟩) c).trans c2,(h.cell (p:=⟨bl,off+3,none⟩) c).trans c3,
   (h.cell (p:=⟨bl,off+4,none⟩) c).trans c4,(h.cell (p:=⟨bl,off+5,none⟩) c).trans c5⟩,Zb6.below h q⟩,KidsLie.below h c hr⟩
end
mutual
theorem Zb6.mono {B x:Nat} {w:World} (h:B<=x):∀ {v:Value} {T:Zd},Zb6 B w v T->Zb6 x w v T
 | v,.mk k b n s ks ts,hl=>by
  simp only [Zb6] at hl |-
  obtain ⟨ka,kc,la,lc,q,hb,hk,ht⟩:=hl
  refine ⟨ka,kc,la,lc,q,hb,?_,?_⟩
  ·rcases hk with hk | ⟨y,off,e,c,f⟩
   ·exact .inl hk
   ·exact .inr ⟨y,off,e,Nat.lt_of_lt_of_le c h,f⟩
  ·rcases ht with ht | ⟨bl,off,e,c,f⟩
   ·exact .inl ht
   ·exact .inr ⟨bl,off,e,Nat.lt_of_lt_of_le c h,KidsLie.mono h f⟩
theorem KidsLie.mono {B x:Nat} {w:World} (h:B<=x) {bl:Nat}:∀ {off:Nat} {ts:List Zd},KidsLie B w bl off ts->KidsLie x w bl off ts
 | off,[],hl=>by simp only [KidsLie]
 | off,t::ts,hl=>by
  simp only [KidsLie] at hl |-
  obtain ⟨⟨j,l,v2,g,o,m,f,q⟩,hr⟩:=hl
  exact ⟨⟨j,l,v2,g,o,m,f,Zb6.mono h q⟩,KidsLie.mono h hr⟩
end
theorem KidsLie.at {B:Nat} {w:World} {bl:Nat}:∀ {ts:List Zd} {off:Nat},KidsLie B w bl off ts->∀ {i:Nat} {t:Zd},ts[i]?=some t ->
  ∃ j l v2 g o m,(w.cell? ⟨bl,off+i*6,none⟩=some j/\w.cell? ⟨bl,off+i*6+1,none⟩=some l/\w.cell? ⟨bl,off+i*6+2,none⟩=some v2/\w.cell? ⟨bl,off+i*6+3,none⟩=some g /\
   w.cell? ⟨bl,off+i*6+4,none⟩=some o/\w.cell? ⟨bl,off+i*6+5,none⟩=some m)/\Zb6 B w (.agg #[j,l,v2,g,o,m]) t
 | [],off,_,i,t,h=>by simp at h
 | t::ts,off,hl,0,u,h=>by
  simp only [KidsLie] at hl
  simp at h;subst h
  simpa using hl.1
 | t::ts,off,hl,i+1,u,h=>by
  simp only [KidsLie] at hl
  have:=KidsLie.at hl.2 (i:=i) (t:=u) (by simpa using h)
  rw [show off+6+i*6=off+(i+1)*6 from by omega] at this
  exact this
theorem KidsLie.cells {B:Nat} {w:World} {bl:Nat} {ts:List Zd} {off:Nat} (h:KidsLie B w bl off ts) {i:Nat} {k:Int} {b:Bool} {n:Int} {s:ByteArray} {ks:List ByteArray} {r:List Zd} (ht:ts[i]?=some (.mk k b n s ks r)) :
  ∃ ka kc la lc,(w.cell? ⟨bl,off+i*6,none⟩=some (.int .i64 k)/\w.cell? ⟨bl,off+i*6+1,none⟩=some (.bool b)/\w.cell? ⟨bl,off+i*6+2,none⟩=some (.int .i64 n)/\w.cell? ⟨bl,off+i*6+3,none⟩=some (.string s) /\
   w.cell? ⟨bl,off+i*6+4,none⟩=some (.slice ka ks.length kc)/\w.cell? ⟨bl,off+i*6+5,none⟩=some (.slice la r.length lc)) /\
   Zb6 B w (.agg #[.int .i64 k,.bool b,.int .i64 n,.string s,.slice ka ks.length kc,.slice la r.length lc]) (.mk k b n s ks r):=by
 obtain ⟨j,l,v2,g,o,m,⟨c0,c1,c2,c3,c4,c5⟩,hl⟩:=h.at ht
 have z:=hl
 simp only [Zb6] at hl
 obtain ⟨ka,kc,la,lc,e,_⟩:=hl
 simp only [Value.agg.injEq,Array.mk.injEq,List.cons.injEq,and_true] at e
 obtain ⟨rfl,rfl,rfl,rfl,rfl,rfl⟩:=e
 exact ⟨ka,kc,la,lc,⟨c0,c1,c2,c3,c4,c5⟩,z⟩
mutual
def Zd.pre (d:Int):Zd->List (Int × Zd)
 | .mk k b n s ks ts=>(d,.mk k b n s ks ts)::Zd.preL (d+1) ts
def Zd.preL (d:Int):List Zd->List (Int × Zd)
 | []=>[]
 | t::ts=>t.pre d++Zd.preL d ts
end
mutual
def Zd.height:Zd->Nat
 | .mk _ _ _ _ _ ts=>Zd.heightL ts+1
def Zd.heightL:List Zd->Nat
 | []=>0
 | t::ts=>max t.height (Zd.heightL ts)
end
theorem Zd.height_mem:∀ {ts:List Zd} {t:Zd},t ∈ ts->t.height<=Zd.heightL ts
 | [],_,h=>by simp at h
 | u::r,t,h=>by
  simp only [Zd.heightL]
  rcases List.mem_cons.1 h with rfl | h
  ·omega
  ·have:=Zd.height_mem h;omega
theorem Zd.preL_append (d:Int):∀ a b:List Zd,Zd.preL d (a++b)=Zd.preL d a++Zd.preL d b
 | [],b=>by simp [Zd.preL]
 | t::a,b=>by simp [Zd.preL,Zd.preL_append d a b]
theorem Zd.preL_take (d:Int) (ts:List Zd) (i:Nat) (t:Zd) (h:ts[i]?=some t):Zd.preL d (ts.take (i+1))=Zd.preL d (ts.take i)++t.pre d:=by
 rw [List.take_add_one,h,Zd.preL_append]
 simp [Zd.preL]
end Go.Proofs.YthfilnflgahcjaaGreatDoor

namespace Go.Proofs.YthfilnflgahcjaaGreatDoor
open Go.RowKit Go.Shelf
set_option linter.all false
attribute [local go_sem] Oper.semAt_some
structure Ztj (F:Fence) (l B C:Nat) (w0:World) (L:List (Int × Zd)) (J:List (Int × Zd)->World->Prop) (Jx:World->Prop) (Jp:List PanicEntry->World->Prop):Prop where
 old:∀ pre W,J pre W->Below B w0 W/\B<=W.heap.size/\C<=W.heap.size
 more:∀ pre W f,J pre W->Below W.heap.size W f->J pre f
 round:∀ m pre d t v W,J pre W->Zb6 B w0 v t->pre++[(d,t)] <+: L->YieldAt F m Tryz.prog l #[.int .i64 d,v] W fun e f =>
  (e=.returned (.bool true)/\J (pre++[(d,t)]) f/\Zda C W f)\/(e=.returned (.bool false)/\Jx f)\/(∃ g,e=.panicked g/\Jp g f)
set_option maxRecDepth 100000 in
set_option maxHeartbeats 1000000 in
theorem Jai {F:Fence} (hd:F.depth=none) (H:F.fn 235) (h:F.round=none) {l B C:Nat} {w0:World} {L:List (Int × Zd)} {J:List (Int × Zd)->World->Prop} {Jx:World->Prop} {Jp:List PanicEntry->World->Prop}
  (R:Ztj F l B C w0 L J Jx Jp):∀ (T:Zd) (n:Nat) (d:Int) (v:Value) (pre:List (Int × Zd)) (W:World),Zb6 B w0 v T->J pre W->0<=d->d+T.height<=1000000000->pre++T.pre d <+: L ->
  CallsIn F n Tryz.prog 235 #[.int .i64 d,v,.func (.yield l) #[] #[]] W fun e f =>
   (e=.returned (.bool true)/\J (pre++T.pre d) f/\Zda C W f)\/(e=.returned (.bool false)/\Jx f)\/(∃ g,e=.panicked g/\Jp g f):=by
 refine Zd.ind ?_
 intro k b n s ks ts ih m d v pre W K Q b4 a3 hL
 simp only [Zd.pre] at hL
 have HL:Hid (pre++[(d,.mk k b n s ks ts)]++Zd.preL (d+1) ts <+: L):=by simpa [Hid] using hL
 clear hL
 have b5:=Zg5 hd
 have M:=K
 simp only [Zb6] at K
 obtain ⟨ka,kc,la,lc,rfl,⟨a4,b2,U,b3,a6⟩,hk,ht⟩:=K
 unfold maxLen at a4 U a6
 have ho:=R.old pre W Q
 have hy:=R.round (m - 1) pre d (.mk k b n s ks ts) _ (W.alloc (.cells #[.int .i64 k,.bool b,.int .i64 n,.string s,.slice ka ks.length kc,.slice la ts.length lc] 88)) (R.more _ _ _ Q ((Below.refl _ _).alloc (Nat.le_refl _) _)) M ((List.prefix_append _ _).trans HL.out)
 obtain ⟨fn,tmps,assign,body,a0,hR⟩:=hy
 refine callsIn_of_wp Tryz.func235 rfl H ?_ h
 simp only [Tryz.ntmps235,List.size_toArray,List.length_cons,List.length_nil,Nat.reduceAdd,Nat.reduceSub,Array.replicate_succ,Array.replicate_zero,List.push_toArray,List.append_toArray,List.nil_append,List.cons_append]
 gi_wp2_with fail
 refine hR.mono ?_
 clear hR a0
 have hC:C<=W.heap.size:=ho.2.2
 rintro e W2 (⟨rfl,P,G⟩ | ⟨rfl,a7⟩ | ⟨g,rfl,hp⟩)
 ·have c5:W2.cell? ⟨W.heap.size,5,none⟩=some (.slice la ts.length lc):=(G.cell (p:=⟨W.heap.size,5,none⟩) hC (by simp)).trans (Zh _ _ _ _ _ rfl)
  have HA:Hid (Zda C W W2):=(((Zda.refl C W).alloc _).trans G:Zda C W W2)
  clear G ho M hk Q
  gi_wp2_with fail
  gi_loopw [17] (fun i wr=>∃ j:Nat,j<=ts.length/\i=.int .i64 j/\J (pre++[(d,.mk k b n s ks ts)]++Zd.preL (d+1) (ts.take j)) wr/\Zda C W wr) (fun i _=>ts.length - (intOf i).toNat)
  case atStart=>exact ⟨0,Nat.zero_le _,rfl,by simpa [Zd.preL] using P,HA.out⟩
  case round =>
   obtain ⟨j,hj,rfl,r,O⟩:=hrel
   by_cases hlt:j<ts.length
   ·obtain ⟨⟨k',b',n',s',I,X⟩,u⟩:∃ t,ts[j]?=some t:=⟨_,List.getElem?_eq_getElem hlt⟩
    have z:Zd.mk k' b' n' s' I X ∈ ts:=List.mem_of_getElem? u
    obtain ⟨bl,off,rfl,o,q⟩:=ht.resolve_left (by intro e;subst e;simp at hlt)
    obtain ⟨a9,a8,b1,b0,⟨c0,c1,c2,c3,c4,c6⟩,a2⟩:=q.cells u
    have c:=(R.old _ _ r).1
    replace c0:=(c.cell (p:=⟨bl,off+j*6,none⟩) o).trans c0
    replace c1:=(c.cell (p:=⟨bl,off+j*6+1,none⟩) o).trans c1
    replace c2:=(c.cell (p:=⟨bl,off+j*6+2,none⟩) o).trans c2
    replace c3:=(c.cell (p:=⟨bl,off+j*6+3,none⟩) o).trans c3
    replace c4:=(c.cell (p:=⟨bl,off+j*6+4,none⟩) o).trans c4
    replace c6:=(c.cell (p:=⟨bl,off+j*6+5,none⟩) o).trans c6
    have N:Hid (ts[j]?=some (Zd.mk k' b' n' s' I X)):=u
    have HJ:Hid (J (pre++[(d,.mk k b n s ks ts)]++Zd.preL (d+1) (ts.take j)) wr):=r
    clear u c q r ht c5 P
    have hh:=Zd.height_mem z
    have S:Hid (pre++[(d,.mk k b n s ks ts)]++Zd.preL (d+1) (ts.take j)++(Zd.mk k' b' n' s' I X).pre (d+1) <+: pre++[(d,.mk k b n s ks ts)]++Zd.preL (d+1) ts):=by
     have e:=Zd.preL_take (d+1) ts j _ N.out
     have e2:Zd.preL (d+1) ts=Zd.preL (d+1) (ts.take (j+1))++Zd.preL (d+1) (ts.drop (j+1)):=by rw [<- Zd.preL_append,List.take_append_drop]
     rw [e2,e]
     exact ⟨Zd.preL (d+1) (ts.drop (j+1)),by simp [List.append_assoc]⟩
    simp only [Zd.height] at a3 hh
    gi_wp2_with fail
    refine (ih _ z (m - 1) (d+1) _ _ _ a2 (R.more _ _ _ HJ.out ((Below.refl _ _).alloc (Nat.le_refl _) _)) (by omega) (by simp only [Zd.height];omega) (S.out.trans HL.out)).mono ?_
    rintro e W3 (⟨rfl,y,A⟩ | ⟨rfl,E⟩ | ⟨g,rfl,D⟩)
    ·have V:Hid (J (pre++[(d,.mk k b n s ks ts)]++Zd.preL (d+1) (ts.take (j+1))) W3):=by
      rw [Zd.preL_take _ _ _ _ N.out,<- List.append_assoc];exact y
     have a5:Hid (Zda C W W3):=O.trans (((Zda.refl C wr).alloc _).trans A)
     clear y A
     gi_wp2_with fail
     go_roundw
     case rel=>exact ⟨j+1,by omega,by go_num,V.out,a5.out⟩
     case measure=>simp [intOf];omega
    ·gi_wp2_with fail
     go_ret
     exact .inr (.inl ⟨rfl,E⟩)
    ·exact ⟨rfl,.inr (.inr ⟨g,rfl,D⟩)⟩
   ·gi_wp2_with fail
    go_ret
    refine .inl ⟨rfl,?_,O⟩
    rw [List.take_of_length_le (by omega)] at r
    simpa [Zd.pre] using r
 ·gi_wp2_with fail
  go_ret
  exact .inr (.inl ⟨rfl,a7⟩)
 ·exact ⟨rfl,.inr (.inr ⟨g,rfl,hp⟩)⟩
theorem Zk4 {F:Fence} (hd:F.depth=none) (Y:F.fn 234) (H:F.fn 235) (h:F.round=none) {l B C:Nat} {w0:World} {J:List (Int × Zd)->World->Prop} {Jx:World->Prop} {Jp:List PanicEntry->World->Prop}
  {k:Int} {b:Bool} {n:Int} {s:ByteArray} {ks:List ByteArray} {ts:List Zd} {ka:Option Addr} {kc:Nat} {la:Option Addr} {lc:Nat}
  (R:Ztj F l B C w0 ((Zd.mk k b n s ks ts).pre 1) J Jx Jp) (m bx:Nat) (W:World) (K:Zb6 B w0 (.agg #[.int .i64 k,.bool b,.int .i64 n,.string s,.slice ka ks.length kc,.slice la ts.length lc]) (.mk k b n s ks ts))
  (Q:J [] W) (hh:Zd.heightL ts<100000000)
  (c0:W.cell? ⟨bx,0,none⟩=some (.int .i64 k)) (c1:W.cell? ⟨bx,1,none⟩=some (.bool b)) (c2:W.cell? ⟨bx,2,none⟩=some (.int .i64 n)) (c3:W.cell? ⟨bx,3,none⟩=some (.string s))
  (c4:W.cell? ⟨bx,4,none⟩=some (.slice ka ks.length kc)) (c5:W.cell? ⟨bx,5,none⟩=some (.slice la ts.length lc)) :
  CallsIn F m Tryz.prog 234 #[.func (.yield l) #[] #[],.pointer (some ⟨bx,0,none⟩)] W fun e f =>
   ((∃ x,e=.returned x)/\(J ((Zd.mk k b n s ks ts).pre 1) f\/Jx f))\/(∃ g,e=.panicked g/\Jp g f):=by
 have hw:=Jai hd H h R (.mk k b n s ks ts) (m - 1) 1 _ [] W K Q (by omega) (by simp only [Zd.height];omega) (List.prefix_refl _)
 refine callsIn_of_wp Tryz.func234 rfl Y ?_ h
 simp only [Tryz.ntmps234,List.size_toArray,List.length_cons,List.length_nil,Nat.reduceAdd,Nat.reduceSub,Array.replicate_succ,Array.replicate_zero,List.push_toArray,List.append_toArray,List.nil_append,List.cons_append]
 gi_wp2_with fail
 refine hw.mono ?_
 rintro e W3 (⟨rfl,y,A⟩ | ⟨rfl,E⟩ | ⟨g,rfl,D⟩)
 ·clear hw
  gi_wp2_with fail
  go_end0
  exact .inl ⟨⟨_,rfl⟩,.inl (by simpa using y)⟩
 ·clear hw
  gi_wp2_with fail
  go_end0
  exact .inl ⟨⟨_,rfl⟩,.inr E⟩
 ·exact ⟨rfl,.inr ⟨g,rfl,D⟩⟩
theorem Zmr {F:Fence} (a1:F.fn 197) (h:F.round=none) (m:Nat) (k:Int) (b:Bool) (n:Int) (s:ByteArray) (ka:Option Addr) (kl kc:Nat) (la:Option Addr) (ll lc:Nat) (w:World) :
  CallsIn F m Tryz.prog 197 #[.agg #[.int .i64 k,.bool b,.int .i64 n,.string s,.slice ka kl kc,.slice la ll lc]] w fun e w' =>
   e=.returned (.func (.func 234) #[] #[.pointer (some ⟨w.heap.size,0,none⟩)])/\w'=w.alloc (.cells #[.int .i64 k,.bool b,.int .i64 n,.string s,.slice ka kl kc,.slice la ll lc] 88):=by
 refine callsIn_of_wp Tryz.func197 rfl a1 ?_ h
 simp only [Tryz.ntmps197,List.size_toArray,List.length_cons,List.length_nil,Nat.reduceAdd,Nat.reduceSub,Array.replicate_succ,Array.replicate_zero,List.push_toArray,List.append_toArray,List.nil_append,List.cons_append]
 gi_wp2
 go_ret
 exact ⟨rfl,rfl⟩
end Go.Proofs.YthfilnflgahcjaaGreatDoor

namespace Go.Proofs.YthfilnflgahcjaaGreatDoor
open Go.RowKit Go.Shelf
set_option linter.all false
attribute [local go_sem] Oper.semAt_some
def Zv (ks:List ByteArray):Int:=(ks.map fun k=>(k.size:Int)).sum
def Zd.bytes (t:Zd):Int:=t.text.size+Zv t.keys
def Zea:Int->List (Int × Zd)->Bool
 | _,[]=>false
 | a,(d,t)::r=>decide (64<d\/65536<t.kids.length\/1048576<a+t.bytes)||Zea (a+t.bytes) r
def bytesOf (l:List (Int × Zd)):Int:=(l.map fun x=>x.2.bytes).sum
theorem Zuw (l:List (Int × Zd)):∀ (a d:Int) (t:Zd),Zea a (l++[(d,t)])=(Zea a l||decide (64<d\/65536<t.kids.length\/1048576<a+bytesOf l+t.bytes)):=by
 induction l with
 | nil=>intro a d t;simp [Zea,bytesOf]
 | cons x r ih =>
  intro a d t
  obtain ⟨e,u⟩:=x
  simp only [List.cons_append,Zea,ih,bytesOf,List.map_cons,List.sum_cons,Bool.or_assoc]
  congr 2
  rw [show a+(u.bytes+(r.map fun x=>x.2.bytes).sum)+t.bytes=a+u.bytes+(r.map fun x=>x.2.bytes).sum+t.bytes from by omega]
  rfl
theorem Zfy {p l:List (Int × Zd)} (h:p <+: l):∀ a,Zea a p=true->Zea a l=true:=by
 obtain ⟨r,rfl⟩:=h
 induction p with
 | nil=>intro a h;simp [Zea] at h
 | cons x p ih =>
  intro a h
  obtain ⟨d,t⟩:=x
  simp only [List.cons_append,Zea,Bool.or_eq_true] at h |-
  exact h.imp id (ih _)
theorem Zu (ks:List ByteArray):0<=Zv ks:=by
 induction ks with
 | nil=>simp [Zv]
 | cons k r ih=>simp only [Zv,List.map_cons,List.sum_cons] at ih |-;omega
theorem Zo7 (t:Zd):0<=t.bytes:=by have:=Zu t.keys;unfold Zd.bytes;omega
theorem Zbx (a b:List (Int × Zd)):bytesOf (a++b)=bytesOf a+bytesOf b:=by simp [bytesOf]
theorem Zhj (d:Int) (k:Int) (b:Bool) (n:Int) (s:ByteArray) (ks:List ByteArray) (ts:List Zd):bytesOf [(d,.mk k b n s ks ts)]=s.size+Zv ks:=by simp [bytesOf,Zd.bytes,Zd.text,Zd.keys]
theorem Zeb (l:List (Int × Zd)):0<=bytesOf l:=by
 induction l with
 | nil=>simp [bytesOf]
 | cons x r ih=>have:=Zo7 x.2;simp only [bytesOf,List.map_cons,List.sum_cons] at ih |-;omega
theorem Zl1 {p l:List (Int × Zd)} (h:p <+: l):bytesOf p<=bytesOf l:=by
 obtain ⟨r,rfl⟩:=h
 have:=Zeb r
 rw [Zbx];omega
theorem Znq (ks:List ByteArray) (j:Nat) (h:j<ks.length):Zv (ks.take (j+1))=Zv (ks.take j)+(ks.getD j ⟨#[]⟩).size:=by
 rw [List.take_add_one,List.getD_eq_getElem?_getD,List.getElem?_eq_getElem h];simp only [Zv,Option.toList_some,List.map_append,List.sum_append,List.map_cons,List.map_nil,List.sum_cons,List.sum_nil,Option.getD_some];omega
theorem Zkr (ks:List ByteArray) (j:Nat):Zv (ks.take j)<=Zv ks:=by
 have h:Zv ks=Zv (ks.take j)+Zv (ks.drop j):=by
  have:=congrArg Zv (List.take_append_drop j ks)
  rw [<- this];simp [Zv,-List.take_append_drop]
 have:=Zu (ks.drop j);omega
set_option maxRecDepth 100000 in
set_option maxHeartbeats 1000000 in
theorem Zwk {F:Fence} (hd:F.depth=none) (E:F.round=none) (c7:F.fn 200) (b8:F.fn 197) (X:F.fn 234) (c4:F.fn 235) (c8:∀ f,F.fn f->∃ fn,Tryz.prog.funcs[f]?=some fn) (m:Nat) (v:Value) (T:Zd) (w:World)
  (hv:Zb6 w.heap.size w v T) (hh:T.height<100000000) (hb:bytesOf (T.pre 1)<4611686018427387904) :
  CallsIn F m Tryz.prog 200 #[v] w fun e w'=>Below w.heap.size w w'/\((Zea 0 (T.pre 1)=false/\∃ x,e=.returned x)\/(Zea 0 (T.pre 1)=true/\e=.panicked [{ v:=.iface 34 (.int .i64 3),recovered:=false }])):=by
 obtain ⟨k,b,n,s,ks,ts⟩:=T
 have b7:=hv
 simp only [Zb6] at hv
 obtain ⟨ka,kc,la,lc,rfl,⟨d6,c5,d9,d7,d8⟩,hk,ht⟩:=hv
 refine callsIn_of_wp_marks Tryz.func200 rfl c7 ?_ E
 simp only [Tryz.ntmps200,List.size_toArray,List.length_cons,List.length_nil,Nat.reduceAdd,Nat.reduceSub,Array.replicate_succ,Array.replicate_zero,List.push_toArray,List.append_toArray,List.nil_append,List.cons_append]
 gi_wp2_with (gi_at_call 197;refine (Zmr b8 E _ _ _ _ _ _ _ _ _ _ _ _).mono ?_;rintro e w' ⟨rfl,rfl⟩)
 refine Zov E hd (gf:=234) (lb:=#[.pointer (some ⟨w.heap.size+1+1,0,none⟩)]) rfl X (enters_of Tryz.func234 (by kernel_rfl) rfl) ?_
 intro fn a9
 generalize g:Loop.mk _ _ _ _ _ _ _ _=rec
 simp only [World.size_alloc]
 generalize z:World.alloc _ (Obj.loop rec)=W0
 have Y:W0.heap.size=w.heap.size+5:=by rw [<- z];simp
 have b1:W0.heap[w.heap.size+1]?=some (.cells #[.int .i64 0] 3 (0,0)):=by rw [<- z];simp only [Jt,World.size_alloc];repeat (first | rw [if_pos trivial] | rw [if_pos (by omega)] | rw [if_neg (by omega)])
 have P:W0.heap[w.heap.size+2]?=some (.cells #[.int .i64 k,.bool b,.int .i64 n,.string s,.slice ka ks.length kc,.slice la ts.length lc] 88 (0,0)):=by rw [<- z];simp only [Jt,World.size_alloc];repeat (first | rw [if_pos trivial] | rw [if_pos (by omega)] | rw [if_neg (by omega)])
 have b3:W0.heap[w.heap.size+3]?=some (.deferred (some [])):=by rw [<- z];simp only [Jt,World.size_alloc];repeat (first | rw [if_pos trivial] | rw [if_pos (by omega)] | rw [if_neg (by omega)])
 have b4:W0.heap[w.heap.size+4]?=some (.loop rec):=by rw [<- z];simp only [Jt,World.size_alloc];repeat (first | rw [if_pos trivial] | rw [if_pos (by omega)] | rw [if_neg (by omega)])
 have c0:Below w.heap.size w W0:=by
  rw [<- z];exact (((((Below.refl _ w).alloc (Nat.le_refl _) _).alloc (by simp) _).alloc (by simp;omega) _).alloc (by simp;omega) _).alloc (by simp;omega) _
 clear z
 have R:Ztj F (w.heap.size+4) w.heap.size (w.heap.size+5) w ((Zd.mk k b n s ks ts).pre 1)
   (fun pre W=>W.heap[w.heap.size+4]?=some (.loop rec)/\W.heap[w.heap.size+3]?=some (.deferred (some []))/\W.heap[w.heap.size+1]?=some (.cells #[.int .i64 (bytesOf pre)] 3 (0,0)) /\
    Below w.heap.size w W/\w.heap.size+5<=W.heap.size/\Zea 0 pre=false)
   (fun _=>False)
   (fun ch W=>ch=[{ v:=.iface 34 (.int .i64 3),recovered:=false }]/\W.heap[w.heap.size+3]?=some (.deferred (some []))/\Below w.heap.size w W/\Zea 0 ((Zd.mk k b n s ks ts).pre 1)=true):=by
  refine ⟨?_,?_,?_⟩
  ·rintro pre W ⟨_,_,_,D,h5,_⟩
   exact ⟨D,by omega,h5⟩
  ·rintro pre W W' ⟨O,G,h3,D,h5,I⟩ hb
   exact ⟨(hb.block _ (by omega)).trans O,(hb.block _ (by omega)).trans G,(hb.block _ (by omega)).trans h3,D.trans (hb.mono (by omega)),by have:=hb.size;omega,I⟩
  ·rintro m' pre d ⟨k',b',n',K,c,H⟩ v W ⟨O,G,h3,D,h5,I⟩ a8 B
   simp only [Zb6] at a8
   obtain ⟨U,S,a0,V,rfl,⟨g1,g2,g3,g4,g5⟩,c3,d3⟩:=a8
   have ea:=congrArg Loop.assign g
   have eb:=congrArg Loop.body g
   have et:=congrArg Loop.tmps g
   have ep:=congrArg Loop.params g
   have es:=congrArg Loop.state g
   have ef:=congrArg Loop.fn g
   have c9:Zfl rec=rec:=by rw [<- g];rfl
   dsimp only at ea eb et ep es ef
   clear g
   refine Zhw (by rw [<- ef];exact a9) ea eb et ep O es.symm (by rw [<- ep];rfl) ?_
   clear ea eb et ep es
   gi_wp2_with fail
   refine ⟨(Below.heap_alloc _ _ _ (by omega)).trans O,?_⟩
   unfold maxLen at g1 g3 g5
   generalize y:World.putObj _ _ _=W2
   have a1:W2.heap[w.heap.size+4]?=some (.loop (Zc4 rec)):=by rw [<- y];refine World.putObj_heap_same ?_;simp;omega
   have a2:Boxed W2 (w.heap.size+1) 3 (.int .i64 (bytesOf pre)):=by rw [<- y];show _=_;rw [World.putObj_heap_other (by omega),Below.heap_alloc _ _ _ (by omega)];exact h3
   have a3:W2.heap[w.heap.size+3]?=some (.deferred (some [])):=by rw [<- y,World.putObj_heap_other (by omega),Below.heap_alloc _ _ _ (by omega)];exact G
   have a4:W2.heap[W.heap.size]?=some (.cells #[.int .i64 k',.bool b',.int .i64 n',.string K,.slice U c.length S,.slice a0 H.length V] 88 (0,0)):=by
    rw [<- y];exact (World.putObj_heap_other (by omega)).trans (World.alloc_heap_new _ _)
   have a5:Below w.heap.size w W2:=by rw [<- y];exact (But.putObj _ _).below ((D.alloc (by omega) _)) (by omega)
   have a6:W2.heap.size=W.heap.size+1:=by rw [<- y];simp
   have a7:Zda (w.heap.size+5) W W2:=⟨by omega,fun i hi hl=>by rw [<- y];exact (World.putObj_heap_other (by omega)).trans (Below.heap_alloc _ _ _ hl)⟩
   clear y O G h3
   have cb:=a2.cell
   have fb:=a2.frozen
   have x3:W2.cell? ⟨W.heap.size,3,none⟩=some (.string K):=by unfold World.cell?;simp only [a4];rfl
   have x4:W2.cell? ⟨W.heap.size,4,none⟩=some (.slice U c.length S):=by unfold World.cell?;simp only [a4];rfl
   have d1:¬ (W.heap.size=w.heap.size+1):=by omega
   have d0:=Zeb pre
   have c2:=Zl1 B
   rw [Zbx,Zhj] at c2
   have d5:=Zu c
   gi_wp2_with fail
   gi_loopw [19] (fun i wr=>∃ j:Nat,j<=c.length/\i=.int .i64 j/\But (w.heap.size+1) W2 wr/\Boxed wr (w.heap.size+1) 3 (.int .i64 (bytesOf pre+K.size+Zv (c.take j)))) (fun i _=>c.length - (intOf i).toNat)
   case atStart=>exact ⟨0,Nat.zero_le _,rfl,(But.refl _ _).setCell (p:=⟨w.heap.size+1,0,none⟩) rfl _,by simpa [Zv] using a2.set _⟩
   case round =>
    obtain ⟨j,hj,rfl,o,C⟩:=hrel
    have kj:=Zu (c.take j)
    have kl:=Zkr c j
    have b9:=C.cell
    have d2:=C.frozen
    clear cb fb x3 x4
    by_cases hlt:j<c.length
    ·obtain ⟨bk,off,rfl,b5,L⟩:=c3.resolve_left (by intro e;subst e;simp at hlt)
     have hc:=L j hlt
     have d4:wr.cell? ⟨bk,off+j,none⟩=some (.string (c.getD j ⟨#[]⟩)):=((o.cell (p:=⟨bk,off+j,none⟩) (by show bk≠_;omega)).trans (a5.cell (p:=⟨bk,off+j,none⟩) b5)).trans hc.1
     have HS:Hid (Zv (c.take (j+1))=Zv (c.take j)+(c.getD j ⟨#[]⟩).size):=Znq c j hlt
     have c1:=Zkr c (j+1)
     rw [HS.out] at c1
     have Y:=hc.2
     unfold maxLen at Y
     generalize c.getD j ⟨#[]⟩=kx at *
     clear L hc
     gi_wp2_with fail
     go_roundw
     case rel=>exact ⟨j+1,by omega,by go_num,o.setCell (p:=⟨w.heap.size+1,0,none⟩) rfl _,by rw [HS.out,<- Int.add_assoc];exact C.set _⟩
     case measure=>simp [intOf];omega
    ·rw [List.take_of_length_le (by omega)] at C kj kl b9
     have x5:wr.cell? ⟨W.heap.size,5,none⟩=some (.slice a0 H.length V):=(o.cell (p:=⟨W.heap.size,5,none⟩) (by show W.heap.size≠_;omega)).trans (by unfold World.cell?;simp only [a4];rfl)
     have HH:Hid (Zea 0 (pre++[(d,.mk k' b' n' K c H)])=decide (64<d\/65536<H.length\/1048576<bytesOf pre+K.size+Zv c)):=by
      show _=_
      rw [Zuw,I];simp [Zd.kids,Zd.bytes,Zd.text,Zd.keys,Int.add_assoc]
     have HB:Hid (bytesOf (pre++[(d,.mk k' b' n' K c H)])=bytesOf pre+K.size+Zv c):=by show _=_;rw [Zbx,Zhj];omega
     have HW:Hid (wr.heap[w.heap.size+4]?=some (.loop (Zc4 rec))):=(o.block _ (by omega)).trans a1
     have N:Hid (wr.heap[w.heap.size+3]?=some (.deferred (some []))):=(o.block _ (by omega)).trans a3
     have q:Below w.heap.size w wr:=o.below a5 (by omega)
     have c5:=o.size
     clear I a1 a2 a3 a4
     have Q:Hid (∃ fn,Tryz.prog.funcs[rec.fn]?=some fn):=c8 _ (by rw [<- ef];exact a9)
     by_cases q1:64<d
     ·gi_wp2_with fail
      have M:=Zfy B 0 (HH.out.trans (by simp [q1]))
      first | exact ⟨rfl,Q.out,.inr (.inr ⟨_,rfl,rfl,N.out,q,M⟩)⟩ | exact ⟨rfl,Q.out,.inr ⟨_,rfl,rfl,N.out,q,M⟩⟩
     ·by_cases q2:65536<H.length
      ·have b6:(65536:Int)<H.length:=by omega
       gi_wp2_with fail
       have M:=Zfy B 0 (HH.out.trans (by simp [q2]))
       first | exact ⟨rfl,Q.out,.inr (.inr ⟨_,rfl,rfl,N.out,q,M⟩)⟩ | exact ⟨rfl,Q.out,.inr ⟨_,rfl,rfl,N.out,q,M⟩⟩
      ·have b6:¬ (65536:Int)<H.length:=by omega
       by_cases q3:1048576<bytesOf pre+K.size+Zv c
       ·gi_wp2_with fail
        have M:=Zfy B 0 (HH.out.trans (by simp [q3]))
        first | exact ⟨rfl,Q.out,.inr (.inr ⟨_,rfl,rfl,N.out,q,M⟩)⟩ | exact ⟨rfl,Q.out,.inr ⟨_,rfl,rfl,N.out,q,M⟩⟩
       ·gi_wp2_with fail
        have b0:w.heap.size+4<wr.heap.size:=by omega
        refine ⟨HW.out,.inl ⟨rfl,⟨?_,?_,?_,?_,?_,?_⟩,?_⟩⟩
        ·rw [c9];exact World.putObj_heap_same b0
        ·rw [World.putObj_heap_other (by omega)];exact N.out
        ·rw [World.putObj_heap_other (by omega),HB.out];exact C
        ·exact (But.putObj _ _).below q (by omega)
        ·rw [World.putObj_size];omega
        ·exact HH.out.trans (by simp [q1,q2,q3])
        ·refine a7.trans ⟨by rw [World.putObj_size];omega,fun i hi hl=>?_⟩
         rw [World.putObj_heap_other (by omega)];exact o.block i (by omega)
 refine (Zk4 hd X c4 E R (m - 1) (w.heap.size+1+1) W0 b7 ⟨b4,b3,b1,c0,by omega,rfl⟩ (by simp only [Zd.height] at hh;omega)
  (by unfold World.cell?;simp only [P];rfl) (by unfold World.cell?;simp only [P];rfl) (by unfold World.cell?;simp only [P];rfl) (by unfold World.cell?;simp only [P];rfl) (by unfold World.cell?;simp only [P];rfl) (by unfold World.cell?;simp only [P];rfl)).mono ?_
 rintro e W' (⟨⟨x,rfl⟩,⟨O,G,h3,D,h5,I⟩ | hx⟩ | ⟨ch,rfl,rfl,G,D,I⟩)
 ·have hp:rec.pending=none:=by rw [<- g]
  have c6:rec.state≠.busy:=by rw [<- g];simp
  clear g
  refine ⟨rec,O,c6,?_⟩
  simp only [hp]
  show LeavesInM _ _ _ _ _ _ [_] _ _
  refine ⟨by simp,.inl ⟨_,_,rfl,run_takeDeferred ((World.putObj_heap_other (by omega)).trans G),?_⟩⟩
  refine ⟨_,by simp [results,Tryz.results200,go_sem];rfl,?_⟩
  exact ⟨(But.putObj _ _).below ((But.putObj _ _).below D (by omega)) (by omega),.inl ⟨I,_,rfl⟩⟩
 ·exact hx.elim
 ·show LeavesInM _ _ _ _ _ _ [_] _ _
  refine ⟨by simp,.inl ⟨_,_,rfl,run_takeDeferred G,?_⟩⟩
  exact ⟨(But.putObj _ _).below D (by omega),.inr ⟨I,rfl⟩⟩
end Go.Proofs.YthfilnflgahcjaaGreatDoor

