import Derived.RangeFuncKeeps
import Derived.RangeFuncBound
import Derived.RangeFuncCalls
import Derived.RangeFuncNested
import Derived.RangeFuncBox
import Derived.Shelf.Abstract
import Derived.Shelf.RegionOpen
import Derived.OwnWalkIn
import Derived.TacticsInMore
import Derived.LoopNIn
import Derived.LoopIn
import Derived.Test.YteddjlbfbpecjaaGreatDoorJoin2
import Derived.RangeFuncRecord
import Derived.Deep.RegionWith
import Derived.Deep.Cut
import Derived.Maps.Keyed
import Derived.MapKept
namespace Go.Proofs.YteddjlbfbpecjaaGreatDoor
set_option linter.all false
section
open Go.RowKit
variable {F:Fence} {n:Nat} {P:Program}
def Zej (r:Loop):Loop:={ r with state:=.busy }
def Zl6 (r:Loop):Loop:={ r with state:=.ready,pending:=none }
def Zk0 (r:Loop) (c:Code):Loop:={ r with state:=.done,pending:=some c }
def Zpp (r:Loop):Loop:={ r with state:=.exhausted }
def Jfy (P:Program) (l:Nat) (f:Loop) (R:Ending->World->Prop):Exit->Act->World->Prop
 | .normal,_,W=>W.heap[l]?=some (.loop (Zej f))/\R (.returned (.bool true)) (W.putObj l (.loop (Zl6 f)))
 | .ret,_,W=>W.heap[l]?=some (.loop (Zej f))/\R (.returned (.bool false)) (W.putObj l (.loop (Zk0 f .ret)))
 | .exit id,_,W=>W.heap[l]?=some (.loop (Zej f))/\R (.returned (.bool false)) (W.putObj l (.loop (Zk0 f (.exit id))))
 | .panic ch,a,W=>a.defers=[]/\(∃ fn,P.funcs[f.fn]?=some fn)/\R (.panicked ch) W
 | _,_,_=>False
theorem Zfp {l:Nat} {f:Loop} {W:World} {args:Array Value} {R:Ending->World->Prop} {assign body:Code} {tmps:Array Value} {params:Array Tmp} (m:F.fn f.fn) (ea:assign=f.assign) (eb:body=f.body) (et:tmps=f.tmps) (ep:params=f.params)
  (L:W.heap[l]?=some (.loop f)) (z:f.state=.ready) (a1:args.size=f.params.size)
  (E:assign.wpIn (F.inRound l) n P (Exit.then (fun a₁ W₁=>W₁.heap[l]?=some (.loop f)/\body.wpIn (F.inRound l) n P (Jfy P l f R) a₁ (W₁.putObj l (.loop (Zej f)))) (fun _ _ _=>False))
   { tmps:=(params.zip args).foldl (fun tmps (t,a)=>tmps.setIfInBounds t a) tmps,defers:=[] } W) :
  YieldAt F n P l args W R:=by
 subst ea eb et ep
 refine ⟨f.fn,_,f.assign,f.body,run_yield L a1,m,fun c cs hr=>?_⟩
 have x:(F.inRound l).room ((c::cs).length+1+n):=hr
 obtain ⟨e,a,w,y,S⟩:=E { (default:Frame) with fn:=f.fn,kind:=.normal,roundOf:=some l } [.beginRound,.code f.body] (c::cs) rfl m x
 cases e with
 | normal =>
  obtain ⟨Y,K⟩:=y
  have s0:=StepsIn.one (I:=Machine.fenced P (F.inRound l)) (fenced_calm (fr:=Frame.atR { (default:Frame) with fn:=f.fn,kind:=.normal,roundOf:=some l } a [.beginRound,.code f.body]) m x rfl)
   (stepR_beginRound (P:=P) (b:={ (default:Frame) with fn:=f.fn,kind:=.normal,roundOf:=some l }) (a:=a) (k:=[.code f.body]) (cs:=c::cs) rfl (run_beginRound Y z))
  obtain ⟨e,a2,w2,y,q⟩:=K { (default:Frame) with fn:=f.fn,kind:=.normal,roundOf:=some l } [] (c::cs) rfl m x
  have G:=StepsIn.trans S s0
  cases e with
  | normal =>
   obtain ⟨h1,h2⟩:=y
   have s:=run_endRound (P:=P) none h1
   exact ⟨_,_,h2,G.trans (StepsIn.trans q (.one (fenced_calm m x rfl) (stepR_round_end rfl rfl s)))⟩
  | ret =>
   obtain ⟨h1,h2⟩:=y
   have s:=run_endRound (P:=P) (some .ret) h1
   obtain ⟨k1,H⟩:=q.2 rfl
   exact ⟨_,_,h2,G.trans (StepsIn.trans H (.one (fenced_calm m x rfl) (stepR_round_ret rfl rfl s)))⟩
  | exit id =>
   obtain ⟨h1,h2⟩:=y
   have s:=run_endRound (P:=P) (some (.exit id)) h1
   obtain ⟨k1,N,H⟩:=q.2 rfl rfl
   exact ⟨_,_,h2,G.trans (StepsIn.trans H (.one (fenced_calm m x rfl) (stepR_round_exit rfl rfl N s)))⟩
  | panic ch =>
   obtain ⟨h1,⟨fn,T⟩,h2⟩:=y
   obtain ⟨a3,H⟩:=q
   refine ⟨.panicked ch,w2,h2,G.trans (StepsIn.trans H (.one ?_ (step_leave_panicked ⟨rfl,h1,fn,T⟩)))⟩
   exact fenced_leaving (e:=.panicked ch) m x ⟨rfl,h1,fn,T⟩
  | goto t=>exact y.elim
  | outgrown=>exact y.elim
 | exit id=>exact y.elim
 | goto t=>exact y.elim
 | ret=>exact y.elim
 | panic ch=>exact y.elim
 | outgrown=>exact y.elim
def behind (F:Fence) (n:Nat) (P:Program) (l:Nat) (Q:Exit->Act->World->Prop) (a:Act):Ending->World->Prop
 | .returned _,W=>∃ f:Loop,W.heap[l]?=some (.loop f)/\f.state≠.busy /\
   (match f.pending with
     | none=>Q .normal a (W.putObj l (.loop (Zpp f)))
     | some c=>c.wpIn F n P Q a (W.putObj l (.loop (Zpp f))))
 | .panicked ch,W=>Q (.panic ch) a W
 | .outgrown,_=>False
theorem Zl7 {g:Operand} {ps:Array Tmp} {assign body:Code} {Q:Exit->Act->World->Prop} {a:Act} {w:World} (X:F.round=none) (hn:F.depth=none)
  {gf:Nat} {lb:Array Value} (hg:a.eval g=.func (.func gf) #[] lb) (a0:F.fn gf) (eg:∀ args w,(callFunc gf args).run P w=.ok (.enter gf args) w)
  (h:∀ fn,F.fn fn->CallsIn F (n - 1) P gf (#[.func (.yield (w.heap.size+1)) #[] #[]]++lb)
   ((w.alloc (.deferred (some []))).alloc (.loop { state:=.ready,pending:=none,fn,tmps:=a.tmps,params:=ps,assign,body,defers:=w.heap.size }))
   (behind F n P (w.heap.size+1) Q { a with defers:={ target:=.collected w.heap.size,args:=#[] }::a.defers })) :
  (Code.rangeFunc g ps assign body).wpIn F n P Q a w:=by
 refine wpIn_rangeFunc fun fn m=>?_
 refine ⟨_,_,_,{ target:=.fn (.func gf) lb,args:=#[.func (.yield (w.heap.size+1)) #[] #[]] },
  (w.alloc (.deferred (some []))).alloc (.loop { state:=.ready,pending:=none,fn,tmps:=a.tmps,params:=ps,assign,body,defers:=w.heap.size }),gf,_,_,(by rw [X];exact run_enterLoop_outer _ _ _ _ _),?_,?_,?_,fun H=>(by rw [hn] at H;cases H),(h fn m).mono ?_⟩
 ·simp only [resolve,hg];simp [go_sem]
 ·intro f' M;simp [Target.leads] at M;subst M;exact a0
 ·simp [invoke,go_sem,eg]
 ·rintro e W V
  cases e with
  | returned v =>
   obtain ⟨f,h1,h2,h3⟩:=V
   refine ⟨f.pending,_,run_endLoop h1 h2,?_⟩
   have e:(Zpp f)={ f with state:=.exhausted }:=rfl
   rw [e] at h3
   cases U:f.pending<;>simp only [U] at h3 |-<;>exact h3
  | panicked ch=>exact V
  | outgrown=>exact V.elim
structure Zcp (C:Nat) (W O:World):Prop where
 size:W.heap.size<=O.heap.size
 block:∀ k,C<=k->k<W.heap.size->O.heap[k]?=W.heap[k]?
theorem Zcp.refl (C:Nat) (W:World):Zcp C W W:=⟨Nat.le_refl _,fun _ _ _=>rfl⟩
theorem Zcp.trans {C:Nat} {A B D:World} (h:Zcp C A B) (k:Zcp C B D):Zcp C A D :=
 ⟨Nat.le_trans h.size k.size,fun i hi L=>(k.block i hi (Nat.lt_of_lt_of_le L h.size)).trans (h.block i hi L)⟩
theorem Zcp.of_below {C B:Nat} {A D:World} (h:Below B A D) (hB:A.heap.size<=B):Zcp C A D:=⟨h.size,fun i _ L=>h.block i (by omega)⟩
theorem Zcp.cell {C:Nat} {W O:World} (h:Zcp C W O) {p:Addr} (h1:C<=p.block) (h2:p.block<W.heap.size):O.cell? p=W.cell? p:=World.cell?_of_block (h.block _ h1 h2)
theorem Zcp.alloc {C:Nat} {A D:World} (h:Zcp C A D) (o:Obj):Zcp C A (D.alloc o):=h.trans ⟨by simp,fun k _ L=>Below.heap_alloc _ _ _ L⟩
theorem Jv (w:World) (o:Obj) (k:Nat):(w.alloc o).heap[k]?=if k=w.heap.size then some o else w.heap[k]?:=by
 show (w.heap.push o)[k]?=_
 rw [Array.getElem?_push]
structure But (i:Nat) (A B:World):Prop where
 os:B.os=A.os
 tape:B.tape=A.tape
 output:B.output=A.output
 size:B.heap.size=A.heap.size
 block:∀ k,k≠i->B.heap[k]?=A.heap[k]?
theorem But.refl (i:Nat) (A:World):But i A A:=⟨rfl,rfl,rfl,rfl,fun _ _=>rfl⟩
theorem But.setCell {i:Nat} {A B:World} (h:But i A B) {p:Addr} (U:p.block=i) (u:Value):But i A (B.setCell p u) :=
 ⟨h.os,h.tape,h.output,(by simp [World.setCell,h.size]),fun k N=>(Below.heap_setCell _ _ _ _ (by omega)).trans (h.block k N)⟩
theorem But.cell {i:Nat} {A B:World} (h:But i A B) {p:Addr} (U:p.block≠i):B.cell? p=A.cell? p:=World.cell?_of_block (h.block _ U)
theorem But.below {i n:Nat} {w A B:World} (h:But i A B) (k:Below n w A) (hi:n<=i):Below n w B :=
 ⟨h.os.trans k.os,h.tape.trans k.tape,h.output.trans k.output,(by rw [h.size];exact k.size),fun j hj=>(h.block j (by omega)).trans (k.block j hj)⟩
theorem But.putObj {A:World} (i:Nat) (o:Obj):But i A (A.putObj i o):=⟨rfl,rfl,rfl,(by simp),fun k N=>World.putObj_heap_other N⟩
theorem Zn7 {F:Fence} (hd:F.depth=none) (k:Nat):F.room k:=fun d h=>by rw [hd] at h;cases h
theorem Ze0 {F:Fence} (hd:F.depth=none) (k:Nat):(F.depth.isSome=true->1<=k):=fun h=>by rw [hd] at h;cases h
end
section
open Go.RowKit Go.Shelf
theorem Zb {p:Prop} (h:p):Hid p:=h
theorem Zaq {w:World} {p:Addr} {v:Value} (h:w.cell? p=some v):p.block<w.heap.size:=by
 obtain ⟨o,f,_⟩:=cells_of_cell h
 exact (Array.getElem?_eq_some_iff.1 f).1
theorem Zag {B:Nat} {w w':World} (h:Below B w w') (d:w.heap.size<=B) {p:Addr} {v:Value} (c:w.cell? p=some v):w'.cell? p=some v :=
 (h.cell (p:=p) (Nat.lt_of_lt_of_le (Zaq c) d)).trans c
theorem Zaj (W:World) (cs:Array Value) (ty:TypeId) (i:Nat) (v:Value) (h:cs[i]?=some v):(W.alloc (.cells cs ty)).cell? ⟨W.heap.size,i,none⟩=some v:=by
 have e:=World.alloc_heap_new W (.cells cs ty)
 unfold World.cell?
 simp only [e,h]
 rfl
theorem Zh {a b:Int} (h:a≠b):(a==b)=false:=beq_eq_false_iff_ne.2 h
theorem Zah {a b:Int} (h:a=b):(a==b)=true:=beq_iff_eq.2 h
end
section
open Go.RowKit Go.Shelf
attribute [local go_sem] Oper.semAt_some
def ruL  : List Value:=[.func (.func 93) #[] #[],.func (.func 94) #[] #[],.func (.func 95) #[] #[],.func (.func 96) #[] #[],.func (.func 97) #[] #[],.func (.func 98) #[] #[]]
set_option maxRecDepth 100000 in
theorem Zu9 (w:World):Calls Tryz.prog 34 #[] w fun e w'=>e=.returned (.slice (some ⟨w.heap.size,0,none⟩) 6 6)/\Below w.heap.size w w'/\∀ q v,ruL[q]?=some v->w'.cell? ⟨w.heap.size,q,none⟩=some v:=by
 go_enter Tryz.func34,Tryz.ntmps34
 go_wp2_with fail
 generalize a:World.alloc _ _=W1
 have b:Hid (Below w.heap.size w W1):=by rw [<- a];exact (Below.refl _ _).alloc (Nat.le_refl _) _
 have c:Hid (∀ q v,ruL[q]?=some v->W1.cell? ⟨w.heap.size,q,none⟩=some v):=by
  intro q v d
  rw [<- a]
  refine Zaj _ _ _ _ _ ?_
  have:ruL.toArray[q]?=some v:=by rw [List.getElem?_toArray,d]
  exact this
 clear a
 go_ret
 exact ⟨rfl,b.out,c.out⟩
end
section
open Go.RowKit Go.Shelf Go.Maps
def I64 (k:Int):Prop:=(Lit.int .i64 k).wf=true
def MI (w:World) (b:Nat) (es:List (Int × Value)):Prop:=∃ g a,w.heap[b]?=some (.map g a)/\g.toList.map (fun e=>(e.key,e.val))=es.map (fun p=>(Value.int .i64 p.1,p.2))/\(∀ p ∈ es,I64 p.1)/\MapKept.Stamped g a
theorem MI.block {w w':World} {b:Nat} {es:List (Int × Value)} (h:MI w b es) (V:w'.heap[b]?=w.heap[b]?):MI w' b es:=by
 obtain ⟨g,c,h1,h2⟩:=h
 exact ⟨g,c,V.trans h1,h2⟩
theorem MI.lt {w:World} {b:Nat} {es:List (Int × Value)} (h:MI w b es):b<w.heap.size:=by
 obtain ⟨g,c,h1,_⟩:=h
 exact (Array.getElem?_eq_some_iff.1 h1).1
theorem MI.below {B:Nat} {w w':World} {b:Nat} {es:List (Int × Value)} (h:MI w b es) (V:Below B w w') (hB:w.heap.size<=B):MI w' b es:=h.block (V.block b (Nat.lt_of_lt_of_le h.lt hB))
theorem Zjr (w:World):MI (w.alloc (.map #[] 0)) w.heap.size []:=⟨#[],0,World.alloc_heap_new _ _,rfl,by simp,MapKept.stamped_empty _⟩
theorem Zfv {g:Array MapEntry} {es:List (Int × Value)} (h:g.toList.map (fun e=>(e.key,e.val))=es.map (fun p=>(Value.int .i64 p.1,p.2))) (hs:∀ p ∈ es,I64 p.1):∀ e ∈ g.toList,∃ l,Go.keyOf Tryz.prog 2 e.key=some l:=by
 intro e s
 have:(e.key,e.val) ∈ es.map (fun p=>(Value.int .i64 p.1,p.2)):=by rw [<- h];exact List.mem_map.2 ⟨e,s,rfl⟩
 obtain ⟨p,O,e1⟩:=List.mem_map.1 this
 have e2:Value.int .i64 p.1=e.key:=congrArg Prod.fst e1
 exact ⟨_,by rw [<- e2];exact keyOf_int_mk Tryz.underlying2 (hs p O)⟩
theorem Zsj {g:Array MapEntry} {es:List (Int × Value)} (h:g.toList.map (fun e=>(e.key,e.val))=es.map (fun p=>(Value.int .i64 p.1,p.2))) {e:MapEntry} (s:e ∈ g.toList):∃ p ∈ es,e.key=.int .i64 p.1/\e.val=p.2:=by
 have:(e.key,e.val) ∈ es.map (fun p=>(Value.int .i64 p.1,p.2)):=by rw [<- h];exact List.mem_map.2 ⟨e,s,rfl⟩
 obtain ⟨p,O,e1⟩:=List.mem_map.1 this
 exact ⟨p,O,(congrArg Prod.fst e1).symm,(congrArg Prod.snd e1).symm⟩
theorem Zmn {t e:TypeId} {z:Value} (F:Tryz.prog.underlying t=some (.map 2 e)) (hz:∀ w,(zeroValue e).run Tryz.prog w=.ok z w) {w:World} {b:Nat} {es:List (Int × Value)} (h:MI w b es) (k:Int) (C:I64 k) (hn:∀ p ∈ es,p.1≠k) :
  (Instr.lookup t (.map (some b)) (.int .i64 k) true).run Tryz.prog w=.ok (.tuple #[z,.bool false]) w/\(Instr.lookup t (.map (some b)) (.int .i64 k) false).run Tryz.prog w=.ok z w:=by
 obtain ⟨g,a,h1,h2,h3,H⟩:=h
 have K:=int_keyed (P:=Tryz.prog) Tryz.underlying2
 have d:=keyOf_int_mk (P:=Tryz.prog) Tryz.underlying2 C
 rcases K.find w d g.toList (Zfv h2 h3) with ⟨r,n⟩ | ⟨j,E,r,n,D⟩
 ·constructor<;>simp [Instr.lookup,run_underlying F,MapKept.run_getObj_map h1,K.check w _ d,r,hz,Result.andThen]
 ·exfalso
  obtain ⟨p,o,e1,_⟩:=Zsj h2 (List.mem_of_getElem? n)
  rw [D] at e1
  have:k=p.1:=by injection e1
  exact hn p o this.symm
theorem Zk7 {t e:TypeId} {z:Value} (F:Tryz.prog.underlying t=some (.map 2 e)) {w:World} {b:Nat} {es:List (Int × Value)} (h:MI w b es) (k:Int) (v:Value) (C:I64 k) (O:(k,v) ∈ es) (N:∀ p ∈ es,p.1=k->p.2=v) :
  (Instr.lookup t (.map (some b)) (.int .i64 k) true).run Tryz.prog w=.ok (.tuple #[v,.bool true]) w/\(Instr.lookup t (.map (some b)) (.int .i64 k) false).run Tryz.prog w=.ok v w:=by
 obtain ⟨g,a,h1,h2,h3,H⟩:=h
 have K:=int_keyed (P:=Tryz.prog) Tryz.underlying2
 have d:=keyOf_int_mk (P:=Tryz.prog) Tryz.underlying2 C
 rcases K.find w d g.toList (Zfv h2 h3) with ⟨r,n⟩ | ⟨j,E,r,n,D⟩
 ·exfalso
  have:(Value.int .i64 k,v) ∈ g.toList.map (fun e=>(e.key,e.val)):=by rw [h2];exact List.mem_map.2 ⟨_,O,rfl⟩
  obtain ⟨e,s,e1⟩:=List.mem_map.1 this
  exact n e s (congrArg Prod.fst e1)
 ·obtain ⟨p,o,e1,e2⟩:=Zsj h2 (List.mem_of_getElem? n)
  rw [D] at e1
  have R:k=p.1:=by injection e1
  have Q:p.1=k:=R.symm
  have e4:E.val=v:=e2.trans (N p o Q)
  rw [e4] at r
  clear e4 e2 Q R e1 N O o
  constructor<;>simp [Instr.lookup,run_underlying F,MapKept.run_getObj_map h1,K.check w _ d,r,Result.andThen]
theorem Zhj {t e:TypeId} (F:Tryz.prog.underlying t=some (.map 2 e)) {w:World} {b:Nat} {es:List (Int × Value)} (h:MI w b es) (k:Int) (v:Value) (C:I64 k) (hn:∀ p ∈ es,p.1≠k) :
  ∃ w',(Instr.mapUpdate t (.map (some b)) (.int .i64 k) v).run Tryz.prog w=.ok () w'/\MI w' b (es++[(k,v)])/\w'.heap.size=w.heap.size/\(∀ i,i≠b->w'.heap[i]?=w.heap[i]?)/\Below b w w':=by
 obtain ⟨g,a,h1,h2,h3,H⟩:=h
 have y:b<w.heap.size:=(Array.getElem?_eq_some_iff.1 h1).1
 have K:=int_keyed (P:=Tryz.prog) Tryz.underlying2
 have d:=keyOf_int_mk (P:=Tryz.prog) Tryz.underlying2 C
 rcases K.find w d g.toList (Zfv h2 h3) with ⟨r,n⟩ | ⟨j,E,r,n,D⟩
 ·refine ⟨{ w with heap:=w.heap.setIfInBounds b (.map (g.push ⟨.int .i64 k,v,a⟩) (a+1)) },?_,⟨g.push ⟨.int .i64 k,v,a⟩,a+1,?_,?_,?_,MapKept.stamped_push H n⟩,?_,?_,⟨rfl,rfl,rfl,?_,?_⟩⟩
  ·simp [Instr.mapUpdate,run_underlying F,MapKept.run_getObj_map h1,K.check w false d,r,MapKept.run_setObj_map _ h1,Result.andThen]
  ·simp [y]
  ·simp [h2]
  ·intro p o
   rcases List.mem_append.1 o with o | o
   ·exact h3 p o
   ·simp only [List.mem_cons,List.not_mem_nil,or_false] at o;rw [o];exact C
  ·simp
  ·intro i hi
   simp [Array.getElem?_setIfInBounds_ne (Ne.symm hi)]
  ·simp
  ·intro i hi
   have:i≠b:=by omega
   simp [Array.getElem?_setIfInBounds_ne (Ne.symm this)]
 ·exfalso
  obtain ⟨p,o,e1,_⟩:=Zsj h2 (List.mem_of_getElem? n)
  rw [D] at e1
  have:k=p.1:=by injection e1
  exact hn p o this.symm
theorem Jce {t e:TypeId} (F:Tryz.prog.underlying t=some (.map 2 e)) {w:World} {b:Nat} {es:List (Int × Value)} (h:MI w b es) (j:Nat) (k:Int) (v0 v:Value) (C:I64 k) (W:es[j]?=some (k,v0)) (N:∀ i p,es[i]?=some p->p.1=k->i=j) :
  ∃ w',(Instr.mapUpdate t (.map (some b)) (.int .i64 k) v).run Tryz.prog w=.ok () w'/\MI w' b (es.set j (k,v))/\w'.heap.size=w.heap.size/\(∀ i,i≠b->w'.heap[i]?=w.heap[i]?)/\Below b w w':=by
 obtain ⟨g,a,h1,h2,h3,H⟩:=h
 have y:b<w.heap.size:=(Array.getElem?_eq_some_iff.1 h1).1
 have K:=int_keyed (P:=Tryz.prog) Tryz.underlying2
 have d:=keyOf_int_mk (P:=Tryz.prog) Tryz.underlying2 C
 rcases K.find w d g.toList (Zfv h2 h3) with ⟨r,n⟩ | ⟨i,E,r,n,D⟩
 ·exfalso
  have:(Value.int .i64 k,v0) ∈ g.toList.map (fun e=>(e.key,e.val)):=by rw [h2];exact List.mem_map.2 ⟨_,List.mem_of_getElem? W,rfl⟩
  obtain ⟨e,s,e1⟩:=List.mem_map.1 this
  exact n e s (congrArg Prod.fst e1)
 ·have u:(es.map (fun p=>(Value.int .i64 p.1,p.2)))[i]?=some (E.key,E.val):=by rw [<- h2,List.getElem?_map,n];rfl
  rw [List.getElem?_map] at u
  obtain ⟨p,o,e1⟩:=Option.map_eq_some_iff.1 u
  have e2:Value.int .i64 p.1=.int .i64 k:=(congrArg Prod.fst e1).trans D
  have Q:p.1=k:=by injection e2
  have M:=N i p o Q
  subst M
  have T:i<g.size:=by
   have:=(List.getElem?_eq_some_iff.1 n).1
   simpa using this
  have X:=K.stays w d
  have I:g[i]?=some E:=by rw [<- Array.getElem?_toList];exact n
  have A:(Instr.mapUpdate t (.map (some b)) (.int .i64 k) v).run Tryz.prog w=.ok () { w with heap:=w.heap.setIfInBounds b (.map (g.modify i fun e=>{ e with key:=.int .i64 k,val:=v }) a) }:=by
   simp [Instr.mapUpdate,run_underlying F,MapKept.run_getObj_map h1,K.check w false d,r,I,D,X,MapKept.run_setObj_map _ h1,Result.andThen]
  refine ⟨_,A,⟨g.modify i fun e=>{ e with key:=.int .i64 k,val:=v },a,?_,?_,?_,MapKept.stamped_modify H i _ (fun _ _=>rfl) (fun e _ s=>by rw [I] at s;cases s;exact D.symm)⟩,?_,?_,⟨rfl,rfl,rfl,?_,?_⟩⟩
  ·simp [y]
  ·refine List.ext_getElem? fun m=>?_
   have G:=congrArg (fun l=>l[m]?) h2
   simp only [List.getElem?_map] at G
   simp only [List.getElem?_map,Array.getElem?_toList,Array.getElem?_modify,List.getElem?_set] at G |-
   by_cases hmi:i=m
   ·subst hmi
    have U:=(List.getElem?_eq_some_iff.1 o).1
    simp [I,U]
   ·simp [hmi,G]
  ·intro Y L
   rcases List.mem_or_eq_of_mem_set L with h | h
   ·exact h3 Y h
   ·rw [h];exact C
  ·simp
  ·intro q S
   simp [Array.getElem?_setIfInBounds_ne (Ne.symm S)]
  ·simp
  ·intro q S
   have:q≠b:=by omega
   simp [Array.getElem?_setIfInBounds_ne (Ne.symm this)]
theorem Zgr {α β:Type} (f:α->β):∀ (l:List α) (j:Nat),(l.eraseIdx j).map f=(l.map f).eraseIdx j
 | [],j=>by simp
 | x::l,0=>by simp
 | x::l,j+1=>by simp [Zgr f l j]
theorem Zsk {t e ty:TypeId} (F:Tryz.prog.underlying t=some (.map 2 e)) {w:World} {b:Nat} {es:List (Int × Value)} (h:MI w b es) (j:Nat) (k:Int) (v0:Value) (C:I64 k) (W:es[j]?=some (k,v0)) (N:∀ i p,es[i]?=some p->p.1=k->i=j) :
  ∃ w',(Builtin.delete_ #[t,2] ty #[.map (some b),.int .i64 k]).run Tryz.prog w=.ok (.tuple #[]) w'/\MI w' b (es.eraseIdx j)/\w'.heap.size=w.heap.size/\(∀ i,i≠b->w'.heap[i]?=w.heap[i]?)/\Below b w w':=by
 obtain ⟨g,a,h1,h2,h3,H⟩:=h
 have y:b<w.heap.size:=(Array.getElem?_eq_some_iff.1 h1).1
 have K:=int_keyed (P:=Tryz.prog) Tryz.underlying2
 have d:=keyOf_int_mk (P:=Tryz.prog) Tryz.underlying2 C
 rcases K.find w d g.toList (Zfv h2 h3) with ⟨r,n⟩ | ⟨i,E,r,n,D⟩
 ·exfalso
  have:(Value.int .i64 k,v0) ∈ g.toList.map (fun e=>(e.key,e.val)):=by rw [h2];exact List.mem_map.2 ⟨_,List.mem_of_getElem? W,rfl⟩
  obtain ⟨e,s,e1⟩:=List.mem_map.1 this
  exact n e s (congrArg Prod.fst e1)
 ·have u:(es.map (fun p=>(Value.int .i64 p.1,p.2)))[i]?=some (E.key,E.val):=by rw [<- h2,List.getElem?_map,n];rfl
  rw [List.getElem?_map] at u
  obtain ⟨p,o,e1⟩:=Option.map_eq_some_iff.1 u
  have e2:Value.int .i64 p.1=.int .i64 k:=(congrArg Prod.fst e1).trans D
  have Q:p.1=k:=by injection e2
  have M:=N i p o Q
  subst M
  have T:i<g.size:=by
   have:=(List.getElem?_eq_some_iff.1 n).1
   simpa using this
  have A:(Builtin.delete_ #[t,2] ty #[.map (some b),.int .i64 k]).run Tryz.prog w=.ok (.tuple #[]) { w with heap:=w.heap.setIfInBounds b (.map (g.eraseIdxIfInBounds i) a) }:=by
   simp [Builtin.delete_,run_underlying F,MapKept.run_getObj_map h1,K.check w _ d,r,MapKept.run_setObj_map _ h1,Result.andThen]
  refine ⟨_,A,⟨g.eraseIdxIfInBounds i,a,?_,?_,?_,MapKept.stamped_erase H i⟩,?_,?_,⟨rfl,rfl,rfl,?_,?_⟩⟩
  ·simp [y]
  ·rw [Array.toList_eraseIdxIfInBounds,Zgr,h2,Zgr]
  ·intro Y L
   exact h3 Y (List.mem_of_mem_eraseIdx L)
  ·simp
  ·intro q S
   simp [Array.getElem?_setIfInBounds_ne (Ne.symm S)]
  ·simp
  ·intro q S
   have:q≠b:=by omega
   simp [Array.getElem?_setIfInBounds_ne (Ne.symm this)]
end
