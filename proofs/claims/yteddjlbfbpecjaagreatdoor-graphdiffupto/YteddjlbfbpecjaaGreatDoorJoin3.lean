import Derived.RangeFuncKeeps
import Derived.RangeFuncBound
import Derived.RangeFuncCalls
import Derived.RangeFuncNested
import Derived.RangeFuncBox
import Derived.Shelf.Abstract
import Derived.Shelf.RegionOpen
import Derived.OwnWalkIn
import Derived.TacticsInMore
import Derived.LoopNIn
import Derived.LoopIn
import Derived.Test.YteddjlbfbpecjaaGreatDoorJoin2
import Derived.RangeFuncRecord
import Derived.Deep.RegionWith
import Derived.Deep.Cut
import Derived.Maps.Keyed
import Derived.MapKept
namespace Go.Proofs.YteddjlbfbpecjaaGreatDoor
set_option linter.all false
section
open Go.RowKit
variable {F:Fence} {n:Nat} {P:Program}
def Zej (r:Loop):Loop:={ r with state:=.busy }
def Zl6 (r:Loop):Loop:={ r with state:=.ready,pending:=none }
def Zk0 (r:Loop) (c:Code):Loop:={ r with state:=.done,pending:=some c }
def Zpp (r:Loop):Loop:={ r with state:=.exhausted }
def Jfy (P:Program) (l:Nat) (f:Loop) (R:Ending->World->Prop):Exit->Act->World->Prop
 | .normal,_,W=>W.heap[l]?=some (.loop (Zej f))/\R (.returned (.bool true)) (W.putObj l (.loop (Zl6 f)))
 | .ret,_,W=>W.heap[l]?=some (.loop (Zej f))/\R (.returned (.bool false)) (W.putObj l (.loop (Zk0 f .ret)))
 | .exit id,_,W=>W.heap[l]?=some (.loop (Zej f))/\R (.returned (.bool false)) (W.putObj l (.loop (Zk0 f (.exit id))))
 | .panic ch,a,W=>a.defers=[]/\(∃ fn,P.funcs[f.fn]?=some fn)/\R (.panicked ch) W
 | _,_,_=>False
theorem Zfp {l:Nat} {f:Loop} {W:World} {args:Array Value} {R:Ending->World->Prop} {assign body:Code} {tmps:Array Value} {params:Array Tmp} (m:F.fn f.fn) (ea:assign=f.assign) (eb:body=f.body) (et:tmps=f.tmps) (ep:params=f.params)
  (K:W.heap[l]?=some (.loop f)) (z:f.state=.ready) (a0:args.size=f.params.size)
  (E:assign.wpIn (F.inRound l) n P (Exit.then (fun a₁ W₁=>W₁.heap[l]?=some (.loop f)/\body.wpIn (F.inRound l) n P (Jfy P l f R) a₁ (W₁.putObj l (.loop (Zej f)))) (fun _ _ _=>False))
   { tmps:=(params.zip args).foldl (fun tmps (t,a)=>tmps.setIfInBounds t a) tmps,defers:=[] } W) :
  YieldAt F n P l args W R:=by
 subst ea eb et ep
 refine ⟨f.fn,_,f.assign,f.body,run_yield K a0,m,fun c cs hr=>?_⟩
 have x:(F.inRound l).room ((c::cs).length+1+n):=hr
 obtain ⟨e,a,w,y,M⟩:=E { (default:Frame) with fn:=f.fn,kind:=.normal,roundOf:=some l } [.beginRound,.code f.body] (c::cs) rfl m x
 cases e with
 | normal =>
  obtain ⟨V,L⟩:=y
  have s0:=StepsIn.one (I:=Machine.fenced P (F.inRound l)) (fenced_calm (fr:=Frame.atR { (default:Frame) with fn:=f.fn,kind:=.normal,roundOf:=some l } a [.beginRound,.code f.body]) m x rfl)
   (stepR_beginRound (P:=P) (b:={ (default:Frame) with fn:=f.fn,kind:=.normal,roundOf:=some l }) (a:=a) (k:=[.code f.body]) (cs:=c::cs) rfl (run_beginRound V z))
  obtain ⟨e,a2,w2,y,q⟩:=L { (default:Frame) with fn:=f.fn,kind:=.normal,roundOf:=some l } [] (c::cs) rfl m x
  have G:=StepsIn.trans M s0
  cases e with
  | normal =>
   obtain ⟨h1,h2⟩:=y
   have s:=run_endRound (P:=P) none h1
   exact ⟨_,_,h2,G.trans (StepsIn.trans q (.one (fenced_calm m x rfl) (stepR_round_end rfl rfl s)))⟩
  | ret =>
   obtain ⟨h1,h2⟩:=y
   have s:=run_endRound (P:=P) (some .ret) h1
   obtain ⟨k1,H⟩:=q.2 rfl
   exact ⟨_,_,h2,G.trans (StepsIn.trans H (.one (fenced_calm m x rfl) (stepR_round_ret rfl rfl s)))⟩
  | exit id =>
   obtain ⟨h1,h2⟩:=y
   have s:=run_endRound (P:=P) (some (.exit id)) h1
   obtain ⟨k1,O,H⟩:=q.2 rfl rfl
   exact ⟨_,_,h2,G.trans (StepsIn.trans H (.one (fenced_calm m x rfl) (stepR_round_exit rfl rfl O s)))⟩
  | panic ch =>
   obtain ⟨h1,⟨fn,N⟩,h2⟩:=y
   obtain ⟨a3,H⟩:=q
   refine ⟨.panicked ch,w2,h2,G.trans (StepsIn.trans H (.one ?_ (step_leave_panicked ⟨rfl,h1,fn,N⟩)))⟩
   exact fenced_leaving (e:=.panicked ch) m x ⟨rfl,h1,fn,N⟩
  | goto t=>exact y.elim
  | outgrown=>exact y.elim
 | exit id=>exact y.elim
 | goto t=>exact y.elim
 | ret=>exact y.elim
 | panic ch=>exact y.elim
 | outgrown=>exact y.elim
def behind (F:Fence) (n:Nat) (P:Program) (l:Nat) (Q:Exit->Act->World->Prop) (a:Act):Ending->World->Prop
 | .returned _,W=>∃ f:Loop,W.heap[l]?=some (.loop f)/\f.state≠.busy /\
   (match f.pending with
     | none=>Q .normal a (W.putObj l (.loop (Zpp f)))
     | some c=>c.wpIn F n P Q a (W.putObj l (.loop (Zpp f))))
 | .panicked ch,W=>Q (.panic ch) a W
 | .outgrown,_=>False
theorem Zl7 {g:Operand} {ps:Array Tmp} {assign body:Code} {Q:Exit->Act->World->Prop} {a:Act} {w:World} (Y:F.round=none) (hn:F.depth=none)
  {gf:Nat} {lb:Array Value} (hg:a.eval g=.func (.func gf) #[] lb) (a1:F.fn gf) (eg:∀ args w,(callFunc gf args).run P w=.ok (.enter gf args) w)
  (h:∀ fn,F.fn fn->CallsIn F (n - 1) P gf (#[.func (.yield (w.heap.size+1)) #[] #[]]++lb)
   ((w.alloc (.deferred (some []))).alloc (.loop { state:=.ready,pending:=none,fn,tmps:=a.tmps,params:=ps,assign,body,defers:=w.heap.size }))
   (behind F n P (w.heap.size+1) Q { a with defers:={ target:=.collected w.heap.size,args:=#[] }::a.defers })) :
  (Code.rangeFunc g ps assign body).wpIn F n P Q a w:=by
 refine wpIn_rangeFunc fun fn m=>?_
 refine ⟨_,_,_,{ target:=.fn (.func gf) lb,args:=#[.func (.yield (w.heap.size+1)) #[] #[]] },
  (w.alloc (.deferred (some []))).alloc (.loop { state:=.ready,pending:=none,fn,tmps:=a.tmps,params:=ps,assign,body,defers:=w.heap.size }),gf,_,_,(by rw [Y];exact run_enterLoop_outer _ _ _ _ _),?_,?_,?_,fun H=>(by rw [hn] at H;cases H),(h fn m).mono ?_⟩
 ·simp only [resolve,hg];simp [go_sem]
 ·intro f' T;simp [Target.leads] at T;subst T;exact a1
 ·simp [invoke,go_sem,eg]
 ·rintro e W hb
  cases e with
  | returned v =>
   obtain ⟨f,h1,h2,h3⟩:=hb
   refine ⟨f.pending,_,run_endLoop h1 h2,?_⟩
   have e:(Zpp f)={ f with state:=.exhausted }:=rfl
   rw [e] at h3
   cases U:f.pending<;>simp only [U] at h3 |-<;>exact h3
  | panicked ch=>exact hb
  | outgrown=>exact hb.elim
structure Zcp (C:Nat) (W S:World):Prop where
 size:W.heap.size<=S.heap.size
 block:∀ k,C<=k->k<W.heap.size->S.heap[k]?=W.heap[k]?
theorem Zcp.refl (C:Nat) (W:World):Zcp C W W:=⟨Nat.le_refl _,fun _ _ _=>rfl⟩
theorem Zcp.trans {C:Nat} {A B D:World} (h:Zcp C A B) (k:Zcp C B D):Zcp C A D :=
 ⟨Nat.le_trans h.size k.size,fun i X K=>(k.block i X (Nat.lt_of_lt_of_le K h.size)).trans (h.block i X K)⟩
theorem Zcp.of_below {C B:Nat} {A D:World} (h:Below B A D) (hB:A.heap.size<=B):Zcp C A D:=⟨h.size,fun i _ K=>h.block i (by omega)⟩
theorem Zcp.cell {C:Nat} {W S:World} (h:Zcp C W S) {p:Addr} (h1:C<=p.block) (h2:p.block<W.heap.size):S.cell? p=W.cell? p:=World.cell?_of_block (h.block _ h1 h2)
theorem Zcp.alloc {C:Nat} {A D:World} (h:Zcp C A D) (o:Obj):Zcp C A (D.alloc o):=h.trans ⟨by simp,fun k _ K=>Below.heap_alloc _ _ _ K⟩
theorem Jv (w:World) (o:Obj) (k:Nat):(w.alloc o).heap[k]?=if k=w.heap.size then some o else w.heap[k]?:=by
 show (w.heap.push o)[k]?=_
 rw [Array.getElem?_push]
structure But (i:Nat) (A B:World):Prop where
 os:B.os=A.os
 tape:B.tape=A.tape
 output:B.output=A.output
 size:B.heap.size=A.heap.size
 block:∀ k,k≠i->B.heap[k]?=A.heap[k]?
theorem But.refl (i:Nat) (A:World):But i A A:=⟨rfl,rfl,rfl,rfl,fun _ _=>rfl⟩
theorem But.setCell {i:Nat} {A B:World} (h:But i A B) {p:Addr} (U:p.block=i) (u:Value):But i A (B.setCell p u) :=
 ⟨h.os,h.tape,h.output,(by simp [World.setCell,h.size]),fun k O=>(Below.heap_setCell _ _ _ _ (by omega)).trans (h.block k O)⟩
theorem But.cell {i:Nat} {A B:World} (h:But i A B) {p:Addr} (U:p.block≠i):B.cell? p=A.cell? p:=World.cell?_of_block (h.block _ U)
theorem But.below {i n:Nat} {w A B:World} (h:But i A B) (k:Below n w A) (X:n<=i):Below n w B :=
 ⟨h.os.trans k.os,h.tape.trans k.tape,h.output.trans k.output,(by rw [h.size];exact k.size),fun j hj=>(h.block j (by omega)).trans (k.block j hj)⟩
theorem But.putObj {A:World} (i:Nat) (o:Obj):But i A (A.putObj i o):=⟨rfl,rfl,rfl,(by simp),fun k O=>World.putObj_heap_other O⟩
theorem Zn7 {F:Fence} (hd:F.depth=none) (k:Nat):F.room k:=fun d h=>by rw [hd] at h;cases h
theorem Ze0 {F:Fence} (hd:F.depth=none) (k:Nat):(F.depth.isSome=true->1<=k):=fun h=>by rw [hd] at h;cases h
end
section
open Go.RowKit Go.Shelf
theorem Zb {p:Prop} (h:p):Hid p:=h
theorem Zaq {w:World} {p:Addr} {v:Value} (h:w.cell? p=some v):p.block<w.heap.size:=by
 obtain ⟨o,d,_⟩:=cells_of_cell h
 exact (Array.getElem?_eq_some_iff.1 d).1
theorem Zag {B:Nat} {w w':World} (h:Below B w w') (f:w.heap.size<=B) {p:Addr} {v:Value} (c:w.cell? p=some v):w'.cell? p=some v :=
 (h.cell (p:=p) (Nat.lt_of_lt_of_le (Zaq c) f)).trans c
theorem Zaj (W:World) (cs:Array Value) (ty:TypeId) (i:Nat) (v:Value) (h:cs[i]?=some v):(W.alloc (.cells cs ty)).cell? ⟨W.heap.size,i,none⟩=some v:=by
 have e:=World.alloc_heap_new W (.cells cs ty)
 unfold World.cell?
 simp only [e,h]
 rfl
theorem Zh {a b:Int} (h:a≠b):(a==b)=false:=beq_eq_false_iff_ne.2 h
theorem Zah {a b:Int} (h:a=b):(a==b)=true:=beq_iff_eq.2 h
end
section
open Go.RowKit Go.Shelf
attribute [local go_sem] Oper.semAt_some
def ruL  : List Value:=[.func (.func 93) #[] #[],.func (.func 94) #[] #[],.func (.func 95) #[] #[],.func (.func 96) #[] #[],.func (.func 97) #[] #[],.func (.func 98) #[] #[]]
set_option maxRecDepth 100000 in
theorem Zu9 (w:World):Calls Tryz.prog 34 #[] w fun e w'=>e=.returned (.slice (some ⟨w.heap.size,0,none⟩) 6 6)/\Below w.heap.size w w'/\∀ q v,ruL[q]?=some v->w'.cell? ⟨w.heap.size,q,none⟩=some v:=by
 go_enter Tryz.func34,Tryz.ntmps34
 go_wp2_with fail
 generalize a:World.alloc _ _=W1
 have b:Hid (Below w.heap.size w W1):=by rw [<- a];exact (Below.refl _ _).alloc (Nat.le_refl _) _
 have d:Hid (∀ q v,ruL[q]?=some v->W1.cell? ⟨w.heap.size,q,none⟩=some v):=by
  intro q v c
  rw [<- a]
  refine Zaj _ _ _ _ _ ?_
  have:ruL.toArray[q]?=some v:=by rw [List.getElem?_toArray,c]
  exact this
 clear a
 go_ret
 exact ⟨rfl,b.out,d.out⟩
end
section
open Go.RowKit Go.Shelf Go.Maps
def I64 (k:Int):Prop:=(Lit.int .i64 k).wf=true
def MI (w:World) (b:Nat) (es:List (Int × Value)):Prop:=∃ g a,w.heap[b]?=some (.map g a)/\g.toList.map (fun e=>(e.key,e.val))=es.map (fun p=>(Value.int .i64 p.1,p.2))/\(∀ p ∈ es,I64 p.1)/\MapKept.Stamped g a
theorem MI.block {w w':World} {b:Nat} {es:List (Int × Value)} (h:MI w b es) (X:w'.heap[b]?=w.heap[b]?):MI w' b es:=by
 obtain ⟨g,c,h1,h2⟩:=h
 exact ⟨g,c,X.trans h1,h2⟩
theorem MI.lt {w:World} {b:Nat} {es:List (Int × Value)} (h:MI w b es):b<w.heap.size:=by
 obtain ⟨g,c,h1,_⟩:=h
 exact (Array.getElem?_eq_some_iff.1 h1).1
theorem MI.below {B:Nat} {w w':World} {b:Nat} {es:List (Int × Value)} (h:MI w b es) (X:Below B w w') (hB:w.heap.size<=B):MI w' b es:=h.block (X.block b (Nat.lt_of_lt_of_le h.lt hB))
theorem Zjr (w:World):MI (w.alloc (.map #[] 0)) w.heap.size []:=⟨#[],0,World.alloc_heap_new _ _,rfl,by simp,MapKept.stamped_empty _⟩
theorem Zfv {g:Array MapEntry} {es:List (Int × Value)} (h:g.toList.map (fun e=>(e.key,e.val))=es.map (fun p=>(Value.int .i64 p.1,p.2))) (hs:∀ p ∈ es,I64 p.1):∀ e ∈ g.toList,∃ l,Go.keyOf Tryz.prog 2 e.key=some l:=by
 intro e s
 have:(e.key,e.val) ∈ es.map (fun p=>(Value.int .i64 p.1,p.2)):=by rw [<- h];exact List.mem_map.2 ⟨e,s,rfl⟩
 obtain ⟨p,Q,e1⟩:=List.mem_map.1 this
 have e2:Value.int .i64 p.1=e.key:=congrArg Prod.fst e1
 exact ⟨_,by rw [<- e2];exact keyOf_int_mk Tryz.underlying2 (hs p Q)⟩
theorem Zsj {g:Array MapEntry} {es:List (Int × Value)} (h:g.toList.map (fun e=>(e.key,e.val))=es.map (fun p=>(Value.int .i64 p.1,p.2))) {e:MapEntry} (s:e ∈ g.toList):∃ p ∈ es,e.key=.int .i64 p.1/\e.val=p.2:=by
 have:(e.key,e.val) ∈ es.map (fun p=>(Value.int .i64 p.1,p.2)):=by rw [<- h];exact List.mem_map.2 ⟨e,s,rfl⟩
 obtain ⟨p,Q,e1⟩:=List.mem_map.1 this
 exact ⟨p,Q,(congrArg Prod.fst e1).symm,(congrArg Prod.snd e1).symm⟩
theorem Zmn {t e:TypeId} {z:Value} (F:Tryz.prog.underlying t=some (.map 2 e)) (hz:∀ w,(zeroValue e).run Tryz.prog w=.ok z w) {w:World} {b:Nat} {es:List (Int × Value)} (h:MI w b es) (k:Int) (C:I64 k) (U:∀ p ∈ es,p.1≠k) :
  (Instr.lookup t (.map (some b)) (.int .i64 k) true).run Tryz.prog w=.ok (.tuple #[z,.bool false]) w/\(Instr.lookup t (.map (some b)) (.int .i64 k) false).run Tryz.prog w=.ok z w:=by
 obtain ⟨g,a,h1,h2,h3,M⟩:=h
 have K:=int_keyed (P:=Tryz.prog) Tryz.underlying2
 have d:=keyOf_int_mk (P:=Tryz.prog) Tryz.underlying2 C
 rcases K.find w d g.toList (Zfv h2 h3) with ⟨r,n⟩ | ⟨j,E,r,n,u⟩
 ·constructor<;>simp [Instr.lookup,run_underlying F,MapKept.run_getObj_map h1,K.check w _ d,r,hz,Result.andThen]
 ·exfalso
  obtain ⟨p,o,e1,_⟩:=Zsj h2 (List.mem_of_getElem? n)
  rw [u] at e1
  have:k=p.1:=by injection e1
  exact U p o this.symm
theorem Zk7 {t e:TypeId} {z:Value} (F:Tryz.prog.underlying t=some (.map 2 e)) {w:World} {b:Nat} {es:List (Int × Value)} (h:MI w b es) (k:Int) (v:Value) (C:I64 k) (Q:(k,v) ∈ es) (O:∀ p ∈ es,p.1=k->p.2=v) :
  (Instr.lookup t (.map (some b)) (.int .i64 k) true).run Tryz.prog w=.ok (.tuple #[v,.bool true]) w/\(Instr.lookup t (.map (some b)) (.int .i64 k) false).run Tryz.prog w=.ok v w:=by
 obtain ⟨g,a,h1,h2,h3,M⟩:=h
 have K:=int_keyed (P:=Tryz.prog) Tryz.underlying2
 have d:=keyOf_int_mk (P:=Tryz.prog) Tryz.underlying2 C
 rcases K.find w d g.toList (Zfv h2 h3) with ⟨r,n⟩ | ⟨j,E,r,n,u⟩
 ·exfalso
  have:(Value.int .i64 k,v) ∈ g.toList.map (fun e=>(e.key,e.val)):=by rw [h2];exact List.mem_map.2 ⟨_,Q,rfl⟩
  obtain ⟨e,s,e1⟩:=List.mem_map.1 this
  exact n e s (congrArg Prod.fst e1)
 ·obtain ⟨p,o,e1,e2⟩:=Zsj h2 (List.mem_of_getElem? n)
  rw [u] at e1
  have S:k=p.1:=by injection e1
  have N:p.1=k:=S.symm
  have e4:E.val=v:=e2.trans (O p o N)
  rw [e4] at r
  clear e4 e2 N S e1 O Q o
  constructor<;>simp [Instr.lookup,run_underlying F,MapKept.run_getObj_map h1,K.check w _ d,r,Result.andThen]
theorem Zhj {t e:TypeId} (F:Tryz.prog.underlying t=some (.map 2 e)) {w:World} {b:Nat} {es:List (Int × Value)} (h:MI w b es) (k:Int) (v:Value) (C:I64 k) (U:∀ p ∈ es,p.1≠k) :
  ∃ w',(Instr.mapUpdate t (.map (some b)) (.int .i64 k) v).run Tryz.prog w=.ok () w'/\MI w' b (es++[(k,v)])/\w'.heap.size=w.heap.size/\(∀ i,i≠b->w'.heap[i]?=w.heap[i]?)/\Below b w w':=by
 obtain ⟨g,a,h1,h2,h3,M⟩:=h
 have D:b<w.heap.size:=(Array.getElem?_eq_some_iff.1 h1).1
 have K:=int_keyed (P:=Tryz.prog) Tryz.underlying2
 have d:=keyOf_int_mk (P:=Tryz.prog) Tryz.underlying2 C
 rcases K.find w d g.toList (Zfv h2 h3) with ⟨r,n⟩ | ⟨j,E,r,n,u⟩
 ·refine ⟨{ w with heap:=w.heap.setIfInBounds b (.map (g.push ⟨.int .i64 k,v,a⟩) (a+1)) },?_,⟨g.push ⟨.int .i64 k,v,a⟩,a+1,?_,?_,?_,MapKept.stamped_push M n⟩,?_,?_,⟨rfl,rfl,rfl,?_,?_⟩⟩
  ·simp [Instr.mapUpdate,run_underlying F,MapKept.run_getObj_map h1,K.check w false d,r,MapKept.run_setObj_map _ h1,Result.andThen]
  ·simp [D]
  ·simp [h2]
  ·intro p o
   rcases List.mem_append.1 o with o | o
   ·exact h3 p o
   ·simp only [List.mem_cons,List.not_mem_nil,or_false] at o;rw [o];exact C
  ·simp
  ·intro i hi
   simp [Array.getElem?_setIfInBounds_ne (Ne.symm hi)]
  ·simp
  ·intro i hi
   have:i≠b:=by omega
   simp [Array.getElem?_setIfInBounds_ne (Ne.symm this)]
 ·exfalso
  obtain ⟨p,o,e1,_⟩:=Zsj h2 (List.mem_of_getElem? n)
  rw [u] at e1
  have:k=p.1:=by injection e1
  exact U p o this.symm
theorem Jce {t e:TypeId} (F:Tryz.prog.underlying t=some (.map 2 e)) {w:World} {b:Nat} {es:List (Int × Value)} (h:MI w b es) (j:Nat) (k:Int) (v0 v:Value) (C:I64 k) (W:es[j]?=some (k,v0)) (O:∀ i p,es[i]?=some p->p.1=k->i=j) :
  ∃ w',(Instr.mapUpdate t (.map (some b)) (.int .i64 k) v).run Tryz.prog w=.ok () w'/\MI w' b (es.set j (k,v))/\w'.heap.size=w.heap.size/\(∀ i,i≠b->w'.heap[i]?=w.heap[i]?)/\Below b w w':=by
 obtain ⟨g,a,h1,h2,h3,M⟩:=h
 have D:b<w.heap.size:=(Array.getElem?_eq_some_iff.1 h1).1
 have K:=int_keyed (P:=Tryz.prog) Tryz.underlying2
 have d:=keyOf_int_mk (P:=Tryz.prog) Tryz.underlying2 C
 rcases K.find w d g.toList (Zfv h2 h3) with ⟨r,n⟩ | ⟨i,E,r,n,u⟩
 ·exfalso
  have:(Value.int .i64 k,v0) ∈ g.toList.map (fun e=>(e.key,e.val)):=by rw [h2];exact List.mem_map.2 ⟨_,List.mem_of_getElem? W,rfl⟩
  obtain ⟨e,s,e1⟩:=List.mem_map.1 this
  exact n e s (congrArg Prod.fst e1)
 ·have y:(es.map (fun p=>(Value.int .i64 p.1,p.2)))[i]?=some (E.key,E.val):=by rw [<- h2,List.getElem?_map,n];rfl
  rw [List.getElem?_map] at y
  obtain ⟨p,o,e1⟩:=Option.map_eq_some_iff.1 y
  have e2:Value.int .i64 p.1=.int .i64 k:=(congrArg Prod.fst e1).trans u
  have N:p.1=k:=by injection e2
  have H:=O i p o N
  subst H
  have a0:i<g.size:=by
   have:=(List.getElem?_eq_some_iff.1 n).1
   simpa using this
  have Y:=K.stays w d
  have L:g[i]?=some E:=by rw [<- Array.getElem?_toList];exact n
  have A:(Instr.mapUpdate t (.map (some b)) (.int .i64 k) v).run Tryz.prog w=.ok () { w with heap:=w.heap.setIfInBounds b (.map (g.modify i fun e=>{ e with key:=.int .i64 k,val:=v }) a) }:=by
   simp [Instr.mapUpdate,run_underlying F,MapKept.run_getObj_map h1,K.check w false d,r,L,u,Y,MapKept.run_setObj_map _ h1,Result.andThen]
  refine ⟨_,A,⟨g.modify i fun e=>{ e with key:=.int .i64 k,val:=v },a,?_,?_,?_,MapKept.stamped_modify M i _ (fun _ _=>rfl) (fun e _ s=>by rw [L] at s;cases s;exact u.symm)⟩,?_,?_,⟨rfl,rfl,rfl,?_,?_⟩⟩
  ·simp [D]
  ·refine List.ext_getElem? fun m=>?_
   have I:=congrArg (fun l=>l[m]?) h2
   simp only [List.getElem?_map] at I
   simp only [List.getElem?_map,Array.getElem?_toList,Array.getElem?_modify,List.getElem?_set] at I |-
   by_cases hmi:i=m
   ·subst hmi
    have T:=(List.getElem?_eq_some_iff.1 o).1
    simp [L,T]
   ·simp [hmi,I]
  ·intro V G
   rcases List.mem_or_eq_of_mem_set G with h | h
   ·exact h3 V h
   ·rw [h];exact C
  ·simp
  ·intro q R
   simp [Array.getElem?_setIfInBounds_ne (Ne.symm R)]
  ·simp
  ·intro q R
   have:q≠b:=by omega
   simp [Array.getElem?_setIfInBounds_ne (Ne.symm this)]
theorem Zgr {α β:Type} (f:α->β):∀ (l:List α) (j:Nat),(l.eraseIdx j).map f=(l.map f).eraseIdx j
 | [],j=>by simp
 | x::l,0=>by simp
 | x::l,j+1=>by simp [Zgr f l j]
theorem Zsk {t e ty:TypeId} (F:Tryz.prog.underlying t=some (.map 2 e)) {w:World} {b:Nat} {es:List (Int × Value)} (h:MI w b es) (j:Nat) (k:Int) (v0:Value) (C:I64 k) (W:es[j]?=some (k,v0)) (O:∀ i p,es[i]?=some p->p.1=k->i=j) :
  ∃ w',(Builtin.delete_ #[t,2] ty #[.map (some b),.int .i64 k]).run Tryz.prog w=.ok (.tuple #[]) w'/\MI w' b (es.eraseIdx j)/\w'.heap.size=w.heap.size/\(∀ i,i≠b->w'.heap[i]?=w.heap[i]?)/\Below b w w':=by
 obtain ⟨g,a,h1,h2,h3,M⟩:=h
 have D:b<w.heap.size:=(Array.getElem?_eq_some_iff.1 h1).1
 have K:=int_keyed (P:=Tryz.prog) Tryz.underlying2
 have d:=keyOf_int_mk (P:=Tryz.prog) Tryz.underlying2 C
 rcases K.find w d g.toList (Zfv h2 h3) with ⟨r,n⟩ | ⟨i,E,r,n,u⟩
 ·exfalso
  have:(Value.int .i64 k,v0) ∈ g.toList.map (fun e=>(e.key,e.val)):=by rw [h2];exact List.mem_map.2 ⟨_,List.mem_of_getElem? W,rfl⟩
  obtain ⟨e,s,e1⟩:=List.mem_map.1 this
  exact n e s (congrArg Prod.fst e1)
 ·have y:(es.map (fun p=>(Value.int .i64 p.1,p.2)))[i]?=some (E.key,E.val):=by rw [<- h2,List.getElem?_map,n];rfl
  rw [List.getElem?_map] at y
  obtain ⟨p,o,e1⟩:=Option.map_eq_some_iff.1 y
  have e2:Value.int .i64 p.1=.int .i64 k:=(congrArg Prod.fst e1).trans u
  have N:p.1=k:=by injection e2
  have H:=O i p o N
  subst H
  have a0:i<g.size:=by
   have:=(List.getElem?_eq_some_iff.1 n).1
   simpa using this
  have A:(Builtin.delete_ #[t,2] ty #[.map (some b),.int .i64 k]).run Tryz.prog w=.ok (.tuple #[]) { w with heap:=w.heap.setIfInBounds b (.map (g.eraseIdxIfInBounds i) a) }:=by
   simp [Builtin.delete_,run_underlying F,MapKept.run_getObj_map h1,K.check w _ d,r,MapKept.run_setObj_map _ h1,Result.andThen]
  refine ⟨_,A,⟨g.eraseIdxIfInBounds i,a,?_,?_,?_,MapKept.stamped_erase M i⟩,?_,?_,⟨rfl,rfl,rfl,?_,?_⟩⟩
  ·simp [D]
  ·rw [Array.toList_eraseIdxIfInBounds,Zgr,h2,Zgr]
  ·intro V G
   exact h3 V (List.mem_of_mem_eraseIdx G)
  ·simp
  ·intro q R
   simp [Array.getElem?_setIfInBounds_ne (Ne.symm R)]
  ·simp
  ·intro q R
   have:q≠b:=by omega
   simp [Array.getElem?_setIfInBounds_ne (Ne.symm this)]
end
