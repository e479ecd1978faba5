/- A range over a function whose rounds may panic: one round, out of its body's walk. -/
import Derived.RangeFuncKeeps
import Derived.RangeFuncBound
import Derived.RangeFuncCalls
import Derived.RangeFuncNested
import Derived.RangeFuncBox
import Derived.Shelf.Abstract
import Derived.Shelf.RegionOpen
import Derived.WalkKit
import Derived.OwnWalkIn
import Derived.TacticsInMore
import Derived.LoopNIn
import Derived.LoopIn
import Derived.Test.YteddjlbfbpecjaaGreatDoorJoin2
import Derived.Test.YteddjlbfbpecjaaGreatDoorJoin1
import Derived.Below
import Derived.BigQuiet
import Derived.RangeFuncRecord
import Derived.Deep.RegionWith
import Derived.Deep.Cut
import Derived.Maps.Keyed
import Derived.MapKept
namespace Go.Proofs.YteddjlbfbpecjaaGreatDoor
section
open Go.RowKit
set_option linter.all false
variable {F:Fence} {n:Nat} {P:Program}
def Zd6 (r:Loop):Loop:={ r with state:=.busy }
def Zkp (r:Loop):Loop:={ r with state:=.ready,pending:=none }
def Zjk (r:Loop) (c:Code):Loop:={ r with state:=.done,pending:=some c }
def Zno (r:Loop):Loop:={ r with state:=.exhausted }
def Jcn (P:Program) (l:Nat) (rec:Loop) (R:Ending→World→Prop):Exit→Act→World→Prop
 | .normal,_,W=>W.heap[l]?=some (.loop (Zd6 rec))∧R (.returned (.bool true)) (W.putObj l (.loop (Zkp rec)))
 | .ret,_,W=>W.heap[l]?=some (.loop (Zd6 rec))∧R (.returned (.bool false)) (W.putObj l (.loop (Zjk rec .ret)))
 | .exit id,_,W=>W.heap[l]?=some (.loop (Zd6 rec))∧R (.returned (.bool false)) (W.putObj l (.loop (Zjk rec (.exit id))))
 | .panic ch,a,W=>a.defers=[]∧(∃ fn,P.funcs[rec.fn]?=some fn)∧R (.panicked ch) W
 | _,_,_=>False
theorem Zfd {l:Nat} {rec:Loop} {W:World} {args:Array Value} {R:Ending→World→Prop} {assign body:Code} {tmps:Array Value} {params:Array Tmp} (hfn:F.fn rec.fn) (ea:assign=rec.assign) (eb:body=rec.body) (et:tmps=rec.tmps) (ep:params=rec.params)
  (hl:W.heap[l]?=some (.loop rec)) (hready:rec.state=.ready) (hsz:args.size=rec.params.size)
  (hround:assign.wpIn (F.inRound l) n P (Exit.then (fun a₁ W₁=>W₁.heap[l]?=some (.loop rec)∧body.wpIn (F.inRound l) n P (Jcn P l rec R) a₁ (W₁.putObj l (.loop (Zd6 rec)))) (fun _ _ _=>False))
   { tmps:=(params.zip args).foldl (fun tmps (t,a)=>tmps.setIfInBounds t a) tmps,defers:=[] } W) :
  YieldAt F n P l args W R:=by
 subst ea eb et ep
 refine ⟨rec.fn,_,rec.assign,rec.body,run_yield hl hsz,hfn,fun c cs hr=>?_⟩
 have hr':(F.inRound l).room ((c::cs).length+1+n):=hr
 obtain ⟨e,a,w,hq,harr⟩:=hround { (default:Frame) with fn:=rec.fn,kind:=.normal,roundOf:=some l } [.beginRound,.code rec.body] (c::cs) rfl hfn hr'
 cases e with
 | normal =>
  obtain ⟨hl2,hbody⟩:=hq
  have s0:=StepsIn.one (I:=Machine.fenced P (F.inRound l)) (fenced_calm (fr:=Frame.atR { (default:Frame) with fn:=rec.fn,kind:=.normal,roundOf:=some l } a [.beginRound,.code rec.body]) hfn hr' rfl)
   (stepR_beginRound (P:=P) (b:={ (default:Frame) with fn:=rec.fn,kind:=.normal,roundOf:=some l }) (a:=a) (k:=[.code rec.body]) (cs:=c::cs) rfl (run_beginRound hl2 hready))
  obtain ⟨e,a2,w2,hq,harr2⟩:=hbody { (default:Frame) with fn:=rec.fn,kind:=.normal,roundOf:=some l } [] (c::cs) rfl hfn hr'
  have hgo:=StepsIn.trans harr s0
  cases e with
  | normal =>
   obtain ⟨h1,h2⟩:=hq
   have hend:=run_endRound (P:=P) none h1
   exact ⟨_,_,h2,hgo.trans (StepsIn.trans harr2 (.one (fenced_calm hfn hr' rfl) (stepR_round_end rfl rfl hend)))⟩
  | ret =>
   obtain ⟨h1,h2⟩:=hq
   have hend:=run_endRound (P:=P) (some .ret) h1
   obtain ⟨k1,hs⟩:=harr2.2 rfl
   exact ⟨_,_,h2,hgo.trans (StepsIn.trans hs (.one (fenced_calm hfn hr' rfl) (stepR_round_ret rfl rfl hend)))⟩
  | exit id =>
   obtain ⟨h1,h2⟩:=hq
   have hend:=run_endRound (P:=P) (some (.exit id)) h1
   obtain ⟨k1,hk,hs⟩:=harr2.2 rfl rfl
   exact ⟨_,_,h2,hgo.trans (StepsIn.trans hs (.one (fenced_calm hfn hr' rfl) (stepR_round_exit rfl rfl hk hend)))⟩
  | panic ch =>
   obtain ⟨h1,⟨fn,hex⟩,h2⟩:=hq
   obtain ⟨todo,hs⟩:=harr2
   refine ⟨.panicked ch,w2,h2,hgo.trans (StepsIn.trans hs (.one ?_ (step_leave_panicked ⟨rfl,h1,fn,hex⟩)))⟩
   exact fenced_leaving (e:=.panicked ch) hfn hr' ⟨rfl,h1,fn,hex⟩
  | goto t=>exact hq.elim
  | outgrown=>exact hq.elim
 | exit id=>exact hq.elim
 | goto t=>exact hq.elim
 | ret=>exact hq.elim
 | panic ch=>exact hq.elim
 | outgrown=>exact hq.elim
def behind (F:Fence) (n:Nat) (P:Program) (l:Nat) (Q:Exit→Act→World→Prop) (a:Act):Ending→World→Prop
 | .returned _,W=>∃ rec:Loop,W.heap[l]?=some (.loop rec)∧rec.state≠.busy ∧
   (match rec.pending with
     | none=>Q .normal a (W.putObj l (.loop (Zno rec)))
     | some c=>c.wpIn F n P Q a (W.putObj l (.loop (Zno rec))))
 | .panicked ch,W=>Q (.panic ch) a W
 | .outgrown,_=>False
theorem Zkq {g:Operand} {ps:Array Tmp} {assign body:Code} {Q:Exit→Act→World→Prop} {a:Act} {w:World} (hro:F.round=none) (hn:F.depth=none)
  {gf:Nat} {lb:Array Value} (hg:a.eval g=.func (.func gf) #[] lb) (hFg:F.fn gf) (eg:∀ args w,(callFunc gf args).run P w=.ok (.enter gf args) w)
  (h:∀ fn,F.fn fn→CallsIn F (n - 1) P gf (#[.func (.yield (w.heap.size+1)) #[] #[]]++lb)
   ((w.alloc (.deferred (some []))).alloc (.loop { state:=.ready,pending:=none,fn,tmps:=a.tmps,params:=ps,assign,body,defers:=w.heap.size }))
   (behind F n P (w.heap.size+1) Q { a with defers:={ target:=.collected w.heap.size,args:=#[] }::a.defers })) :
  (Code.rangeFunc g ps assign body).wpIn F n P Q a w:=by
 refine wpIn_rangeFunc fun fn hfn=>?_
 refine ⟨_,_,_,{ target:=.fn (.func gf) lb,args:=#[.func (.yield (w.heap.size+1)) #[] #[]] },
  (w.alloc (.deferred (some []))).alloc (.loop { state:=.ready,pending:=none,fn,tmps:=a.tmps,params:=ps,assign,body,defers:=w.heap.size }),gf,_,_,(by rw [hro];exact run_enterLoop_outer _ _ _ _ _),?_,?_,?_,fun hs=>(by rw [hn] at hs;cases hs),(h fn hfn).mono ?_⟩
 ·simp only [resolve,hg];simp [go_sem]
 ·intro f' hf';simp [Target.leads] at hf';subst hf';exact hFg
 ·simp [invoke,go_sem,eg]
 ·rintro e W hb
  cases e with
  | returned v =>
   obtain ⟨rec,h1,h2,h3⟩:=hb
   refine ⟨rec.pending,_,run_endLoop h1 h2,?_⟩
   have e:(Zno rec)={ rec with state:=.exhausted }:=rfl
   rw [e] at h3
   cases hp:rec.pending<;>simp only [hp] at h3 ⊢<;>exact h3
  | panicked ch=>exact hb
  | outgrown=>exact hb.elim
structure Zci (C:Nat) (W W':World):Prop where
 size:W.heap.size≤W'.heap.size
 block:∀ k,C≤k→k<W.heap.size→W'.heap[k]?=W.heap[k]?
theorem Zci.refl (C:Nat) (W:World):Zci C W W:=⟨Nat.le_refl _,fun _ _ _=>rfl⟩
theorem Zci.trans {C:Nat} {A B D:World} (h:Zci C A B) (k:Zci C B D):Zci C A D :=
 ⟨Nat.le_trans h.size k.size,fun i hi hl=>(k.block i hi (Nat.lt_of_lt_of_le hl h.size)).trans (h.block i hi hl)⟩
theorem Zci.of_below {C B:Nat} {A D:World} (h:Below B A D) (hB:A.heap.size≤B):Zci C A D:=⟨h.size,fun i _ hl=>h.block i (by omega)⟩
theorem Zci.cell {C:Nat} {W W':World} (h:Zci C W W') {p:Addr} (h1:C≤p.block) (h2:p.block<W.heap.size):W'.cell? p=W.cell? p:=World.cell?_of_block (h.block _ h1 h2)
theorem Zci.alloc {C:Nat} {A D:World} (h:Zci C A D) (o:Obj):Zci C A (D.alloc o):=h.trans ⟨by simp,fun k _ hl=>Below.heap_alloc _ _ _ hl⟩
theorem Jr (w:World) (o:Obj) (k:Nat):(w.alloc o).heap[k]?=if k=w.heap.size then some o else w.heap[k]?:=by
 show (w.heap.push o)[k]?=_
 rw [Array.getElem?_push]
structure But (i:Nat) (A B:World):Prop where
 os:B.os=A.os
 tape:B.tape=A.tape
 output:B.output=A.output
 size:B.heap.size=A.heap.size
 block:∀ k,k≠i→B.heap[k]?=A.heap[k]?
theorem But.refl (i:Nat) (A:World):But i A A:=⟨rfl,rfl,rfl,rfl,fun _ _=>rfl⟩
theorem But.setCell {i:Nat} {A B:World} (h:But i A B) {p:Addr} (hp:p.block=i) (u:Value):But i A (B.setCell p u) :=
 ⟨h.os,h.tape,h.output,(by simp [World.setCell,h.size]),fun k hk=>(Below.heap_setCell _ _ _ _ (by omega)).trans (h.block k hk)⟩
theorem But.cell {i:Nat} {A B:World} (h:But i A B) {p:Addr} (hp:p.block≠i):B.cell? p=A.cell? p:=World.cell?_of_block (h.block _ hp)
theorem But.below {i n:Nat} {w A B:World} (h:But i A B) (k:Below n w A) (hi:n≤i):Below n w B :=
 ⟨h.os.trans k.os,h.tape.trans k.tape,h.output.trans k.output,(by rw [h.size];exact k.size),fun j hj=>(h.block j (by omega)).trans (k.block j hj)⟩
theorem But.putObj {A:World} (i:Nat) (o:Obj):But i A (A.putObj i o):=⟨rfl,rfl,rfl,(by simp),fun k hk=>World.putObj_heap_other hk⟩
theorem Zma {F:Fence} (hd:F.depth=none) (k:Nat):F.room k:=fun d h=>by rw [hd] at h;cases h
theorem Zeq {F:Fence} (hd:F.depth=none) (k:Nat):(F.depth.isSome=true→1≤k):=fun h=>by rw [hd] at h;cases h
end
section
open Go.RowKit Go.Shelf
set_option linter.all false
theorem Zb {p:Prop} (h:p):Hid p:=h
theorem Zab {w:World} {p:Addr} {v:Value} (h:w.cell? p=some v):p.block<w.heap.size:=by
 obtain ⟨o,ho,_⟩:=cells_of_cell h
 exact (Array.getElem?_eq_some_iff.1 ho).1
theorem Jw {B:Nat} {w w':World} (h:Below B w w') (hB:w.heap.size≤B) {p:Addr} {v:Value} (hc:w.cell? p=some v):w'.cell? p=some v :=
 (h.cell (p:=p) (Nat.lt_of_lt_of_le (Zab hc) hB)).trans hc
theorem Zaf (W:World) (cs:Array Value) (ty:TypeId) (i:Nat) (v:Value) (h:cs[i]?=some v):(W.alloc (.cells cs ty)).cell? ⟨W.heap.size,i,none⟩=some v:=by
 have e:=World.alloc_heap_new W (.cells cs ty)
 unfold World.cell?
 simp only [e,h]
 rfl
theorem Zh {a b:Int} (h:a≠b):(a==b)=false:=beq_eq_false_iff_ne.2 h
theorem Jy {a b:Int} (h:a=b):(a==b)=true:=beq_iff_eq.2 h
end
section
open Go.RowKit Go.Shelf
set_option linter.all false
attribute [local go_sem] Oper.semAt_some
def ruL  : List Value:=[.func (.func 93) #[] #[],.func (.func 94) #[] #[],.func (.func 95) #[] #[],.func (.func 96) #[] #[],.func (.func 97) #[] #[],.func (.func 98) #[] #[]]
set_option maxRecDepth 100000 in
theorem Zsk (w:World):Calls Tryz.prog 34 #[] w fun e w'=>e=.returned (.slice (some ⟨w.heap.size,0,none⟩) 6 6)∧Below w.heap.size w w'∧∀ q v,ruL[q]?=some v→w'.cell? ⟨w.heap.size,q,none⟩=some v:=by
 go_enter Tryz.func34,Tryz.ntmps34
 go_wp2_with fail
 generalize hW1:World.alloc _ _=W1
 have HB1:Hid (Below w.heap.size w W1):=by rw [← hW1];exact (Below.refl _ _).alloc (Nat.le_refl _) _
 have HT:Hid (∀ q v,ruL[q]?=some v→W1.cell? ⟨w.heap.size,q,none⟩=some v):=by
  intro q v hq
  rw [← hW1]
  refine Zaf _ _ _ _ _ ?_
  have:ruL.toArray[q]?=some v:=by rw [List.getElem?_toArray,hq]
  exact this
 clear hW1
 go_ret
 exact ⟨rfl,HB1.out,HT.out⟩
end
section
open Go.RowKit Go.Shelf Go.Maps
set_option linter.all false
def I64 (k:Int):Prop:=(Lit.int .i64 k).wf=true
def MI (w:World) (b:Nat) (es:List (Int × Value)):Prop:=∃ ar clock,w.heap[b]?=some (.map ar clock)∧ar.toList.map (fun e=>(e.key,e.val))=es.map (fun p=>(Value.int .i64 p.1,p.2))∧(∀ p ∈ es,I64 p.1)∧MapKept.Stamped ar clock
theorem MI.block {w w':World} {b:Nat} {es:List (Int × Value)} (h:MI w b es) (hb:w'.heap[b]?=w.heap[b]?):MI w' b es:=by
 obtain ⟨ar,c,h1,h2⟩:=h
 exact ⟨ar,c,hb.trans h1,h2⟩
theorem MI.lt {w:World} {b:Nat} {es:List (Int × Value)} (h:MI w b es):b<w.heap.size:=by
 obtain ⟨ar,c,h1,_⟩:=h
 exact (Array.getElem?_eq_some_iff.1 h1).1
theorem MI.below {B:Nat} {w w':World} {b:Nat} {es:List (Int × Value)} (h:MI w b es) (hb:Below B w w') (hB:w.heap.size≤B):MI w' b es:=h.block (hb.block b (Nat.lt_of_lt_of_le h.lt hB))
theorem Ziq (w:World):MI (w.alloc (.map #[] 0)) w.heap.size []:=⟨#[],0,World.alloc_heap_new _ _,rfl,by simp,MapKept.stamped_empty _⟩
theorem Zfk {ar:Array MapEntry} {es:List (Int × Value)} (h:ar.toList.map (fun e=>(e.key,e.val))=es.map (fun p=>(Value.int .i64 p.1,p.2))) (hs:∀ p ∈ es,I64 p.1):∀ e ∈ ar.toList,∃ l,Go.keyOf Tryz.prog 2 e.key=some l:=by
 intro e he
 have:(e.key,e.val) ∈ es.map (fun p=>(Value.int .i64 p.1,p.2)):=by rw [← h];exact List.mem_map.2 ⟨e,he,rfl⟩
 obtain ⟨p,hm,e1⟩:=List.mem_map.1 this
 have e2:Value.int .i64 p.1=e.key:=congrArg Prod.fst e1
 exact ⟨_,by rw [← e2];exact keyOf_int_mk Tryz.underlying2 (hs p hm)⟩
theorem Zp3 {ar:Array MapEntry} {es:List (Int × Value)} (h:ar.toList.map (fun e=>(e.key,e.val))=es.map (fun p=>(Value.int .i64 p.1,p.2))) {e:MapEntry} (he:e ∈ ar.toList):∃ p ∈ es,e.key=.int .i64 p.1∧e.val=p.2:=by
 have:(e.key,e.val) ∈ es.map (fun p=>(Value.int .i64 p.1,p.2)):=by rw [← h];exact List.mem_map.2 ⟨e,he,rfl⟩
 obtain ⟨p,hm,e1⟩:=List.mem_map.1 this
 exact ⟨p,hm,(congrArg Prod.fst e1).symm,(congrArg Prod.snd e1).symm⟩
theorem Zir {t e:TypeId} {z:Value} (ht:Tryz.prog.underlying t=some (.map 2 e)) (hz:∀ w,(zeroValue e).run Tryz.prog w=.ok z w) {w:World} {b:Nat} {es:List (Int × Value)} (h:MI w b es) (k:Int) (hk:I64 k) (hn:∀ p ∈ es,p.1≠k) :
  (Instr.lookup t (.map (some b)) (.int .i64 k) true).run Tryz.prog w=.ok (.tuple #[z,.bool false]) w∧(Instr.lookup t (.map (some b)) (.int .i64 k) false).run Tryz.prog w=.ok z w:=by
 obtain ⟨ar,clock,h1,h2,h3,hS⟩:=h
 have K:=int_keyed (P:=Tryz.prog) Tryz.underlying2
 have hkey:=keyOf_int_mk (P:=Tryz.prog) Tryz.underlying2 hk
 rcases K.find w hkey ar.toList (Zfk h2 h3) with ⟨f1,f2⟩ | ⟨j,e0,f1,f2,f3⟩
 ·constructor<;>simp [Instr.lookup,run_underlying ht,MapKept.run_getObj_map h1,K.check w _ hkey,f1,hz,Result.andThen]
 ·exfalso
  obtain ⟨p,hp,e1,_⟩:=Zp3 h2 (List.mem_of_getElem? f2)
  rw [f3] at e1
  have:k=p.1:=by injection e1
  exact hn p hp this.symm
theorem Zis {t e:TypeId} {z:Value} (ht:Tryz.prog.underlying t=some (.map 2 e)) {w:World} {b:Nat} {es:List (Int × Value)} (h:MI w b es) (k:Int) (v:Value) (hk:I64 k) (hm:(k,v) ∈ es) (hu:∀ p ∈ es,p.1=k→p.2=v) :
  (Instr.lookup t (.map (some b)) (.int .i64 k) true).run Tryz.prog w=.ok (.tuple #[v,.bool true]) w∧(Instr.lookup t (.map (some b)) (.int .i64 k) false).run Tryz.prog w=.ok v w:=by
 obtain ⟨ar,clock,h1,h2,h3,hS⟩:=h
 have K:=int_keyed (P:=Tryz.prog) Tryz.underlying2
 have hkey:=keyOf_int_mk (P:=Tryz.prog) Tryz.underlying2 hk
 rcases K.find w hkey ar.toList (Zfk h2 h3) with ⟨f1,f2⟩ | ⟨j,e0,f1,f2,f3⟩
 ·exfalso
  have:(Value.int .i64 k,v) ∈ ar.toList.map (fun e=>(e.key,e.val)):=by rw [h2];exact List.mem_map.2 ⟨_,hm,rfl⟩
  obtain ⟨e,he,e1⟩:=List.mem_map.1 this
  exact f2 e he (congrArg Prod.fst e1)
 ·obtain ⟨p,hp,e1,e2⟩:=Zp3 h2 (List.mem_of_getElem? f2)
  rw [f3] at e1
  have e3':k=p.1:=by injection e1
  have e3:p.1=k:=e3'.symm
  have e4:e0.val=v:=e2.trans (hu p hp e3)
  rw [e4] at f1
  clear e4 e2 e3 e3' e1 hu hm hp
  constructor<;>simp [Instr.lookup,run_underlying ht,MapKept.run_getObj_map h1,K.check w _ hkey,f1,Result.andThen]
theorem Zf6 {t e:TypeId} (ht:Tryz.prog.underlying t=some (.map 2 e)) {w:World} {b:Nat} {es:List (Int × Value)} (h:MI w b es) (k:Int) (v:Value) (hk:I64 k) (hn:∀ p ∈ es,p.1≠k) :
  ∃ w',(Instr.mapUpdate t (.map (some b)) (.int .i64 k) v).run Tryz.prog w=.ok () w'∧MI w' b (es++[(k,v)])∧w'.heap.size=w.heap.size∧(∀ i,i≠b→w'.heap[i]?=w.heap[i]?)∧Below b w w':=by
 obtain ⟨ar,clock,h1,h2,h3,hS⟩:=h
 have hlt:b<w.heap.size:=(Array.getElem?_eq_some_iff.1 h1).1
 have K:=int_keyed (P:=Tryz.prog) Tryz.underlying2
 have hkey:=keyOf_int_mk (P:=Tryz.prog) Tryz.underlying2 hk
 rcases K.find w hkey ar.toList (Zfk h2 h3) with ⟨f1,f2⟩ | ⟨j,e0,f1,f2,f3⟩
 ·refine ⟨{ w with heap:=w.heap.setIfInBounds b (.map (ar.push ⟨.int .i64 k,v,clock⟩) (clock+1)) },?_,⟨ar.push ⟨.int .i64 k,v,clock⟩,clock+1,?_,?_,?_,MapKept.stamped_push hS f2⟩,?_,?_,⟨rfl,rfl,rfl,?_,?_⟩⟩
  ·simp [Instr.mapUpdate,run_underlying ht,MapKept.run_getObj_map h1,K.check w false hkey,f1,MapKept.run_setObj_map _ h1,Result.andThen]
  ·simp [hlt]
  ·simp [h2]
  ·intro p hp
   rcases List.mem_append.1 hp with hp | hp
   ·exact h3 p hp
   ·simp only [List.mem_cons,List.not_mem_nil,or_false] at hp;rw [hp];exact hk
  ·simp
  ·intro i hi
   simp [Array.getElem?_setIfInBounds_ne (Ne.symm hi)]
  ·simp
  ·intro i hi
   have:i≠b:=by omega
   simp [Array.getElem?_setIfInBounds_ne (Ne.symm this)]
 ·exfalso
  obtain ⟨p,hp,e1,_⟩:=Zp3 h2 (List.mem_of_getElem? f2)
  rw [f3] at e1
  have:k=p.1:=by injection e1
  exact hn p hp this.symm
theorem Zvt {t e:TypeId} (ht:Tryz.prog.underlying t=some (.map 2 e)) {w:World} {b:Nat} {es:List (Int × Value)} (h:MI w b es) (j:Nat) (k:Int) (v0 v:Value) (hk:I64 k) (hj:es[j]?=some (k,v0)) (hu:∀ i p,es[i]?=some p→p.1=k→i=j) :
  ∃ w',(Instr.mapUpdate t (.map (some b)) (.int .i64 k) v).run Tryz.prog w=.ok () w'∧MI w' b (es.set j (k,v))∧w'.heap.size=w.heap.size∧(∀ i,i≠b→w'.heap[i]?=w.heap[i]?)∧Below b w w':=by
 obtain ⟨ar,clock,h1,h2,h3,hS⟩:=h
 have hlt:b<w.heap.size:=(Array.getElem?_eq_some_iff.1 h1).1
 have K:=int_keyed (P:=Tryz.prog) Tryz.underlying2
 have hkey:=keyOf_int_mk (P:=Tryz.prog) Tryz.underlying2 hk
 rcases K.find w hkey ar.toList (Zfk h2 h3) with ⟨f1,f2⟩ | ⟨i,e0,f1,f2,f3⟩
 ·exfalso
  have:(Value.int .i64 k,v0) ∈ ar.toList.map (fun e=>(e.key,e.val)):=by rw [h2];exact List.mem_map.2 ⟨_,List.mem_of_getElem? hj,rfl⟩
  obtain ⟨e,he,e1⟩:=List.mem_map.1 this
  exact f2 e he (congrArg Prod.fst e1)
 ·have hi2:(es.map (fun p=>(Value.int .i64 p.1,p.2)))[i]?=some (e0.key,e0.val):=by rw [← h2,List.getElem?_map,f2];rfl
  rw [List.getElem?_map] at hi2
  obtain ⟨p,hp,e1⟩:=Option.map_eq_some_iff.1 hi2
  have e2:Value.int .i64 p.1=.int .i64 k:=(congrArg Prod.fst e1).trans f3
  have e3:p.1=k:=by injection e2
  have hij:=hu i p hp e3
  subst hij
  have hil:i<ar.size:=by
   have:=(List.getElem?_eq_some_iff.1 f2).1
   simpa using this
  have hst:=K.stays w hkey
  have hai:ar[i]?=some e0:=by rw [← Array.getElem?_toList];exact f2
  have hrun:(Instr.mapUpdate t (.map (some b)) (.int .i64 k) v).run Tryz.prog w=.ok () { w with heap:=w.heap.setIfInBounds b (.map (ar.modify i fun e=>{ e with key:=.int .i64 k,val:=v }) clock) }:=by
   simp [Instr.mapUpdate,run_underlying ht,MapKept.run_getObj_map h1,K.check w false hkey,f1,hai,f3,hst,MapKept.run_setObj_map _ h1,Result.andThen]
  refine ⟨_,hrun,⟨ar.modify i fun e=>{ e with key:=.int .i64 k,val:=v },clock,?_,?_,?_,MapKept.stamped_modify hS i _ (fun _ _=>rfl) (fun e _ he=>by rw [hai] at he;cases he;exact f3.symm)⟩,?_,?_,⟨rfl,rfl,rfl,?_,?_⟩⟩
  ·simp [hlt]
  ·refine List.ext_getElem? fun m=>?_
   have hm2:=congrArg (fun l=>l[m]?) h2
   simp only [List.getElem?_map] at hm2
   simp only [List.getElem?_map,Array.getElem?_toList,Array.getElem?_modify,List.getElem?_set] at hm2 ⊢
   by_cases hmi:i=m
   ·subst hmi
    have hel:=(List.getElem?_eq_some_iff.1 hp).1
    simp [hai,hel]
   ·simp [hmi,hm2]
  ·intro p' hp'
   rcases List.mem_or_eq_of_mem_set hp' with h | h
   ·exact h3 p' h
   ·rw [h];exact hk
  ·simp
  ·intro q hq
   simp [Array.getElem?_setIfInBounds_ne (Ne.symm hq)]
  ·simp
  ·intro q hq
   have:q≠b:=by omega
   simp [Array.getElem?_setIfInBounds_ne (Ne.symm this)]
theorem Zf7 {α β:Type} (f:α→β):∀ (l:List α) (j:Nat),(l.eraseIdx j).map f=(l.map f).eraseIdx j
 | [],j=>by simp
 | x::l,0=>by simp
 | x::l,j+1=>by simp [Zf7 f l j]
theorem Zp4 {t e ty:TypeId} (ht:Tryz.prog.underlying t=some (.map 2 e)) {w:World} {b:Nat} {es:List (Int × Value)} (h:MI w b es) (j:Nat) (k:Int) (v0:Value) (hk:I64 k) (hj:es[j]?=some (k,v0)) (hu:∀ i p,es[i]?=some p→p.1=k→i=j) :
  ∃ w',(Builtin.delete_ #[t,2] ty #[.map (some b),.int .i64 k]).run Tryz.prog w=.ok (.tuple #[]) w'∧MI w' b (es.eraseIdx j)∧w'.heap.size=w.heap.size∧(∀ i,i≠b→w'.heap[i]?=w.heap[i]?)∧Below b w w':=by
 obtain ⟨ar,clock,h1,h2,h3,hS⟩:=h
 have hlt:b<w.heap.size:=(Array.getElem?_eq_some_iff.1 h1).1
 have K:=int_keyed (P:=Tryz.prog) Tryz.underlying2
 have hkey:=keyOf_int_mk (P:=Tryz.prog) Tryz.underlying2 hk
 rcases K.find w hkey ar.toList (Zfk h2 h3) with ⟨f1,f2⟩ | ⟨i,e0,f1,f2,f3⟩
 ·exfalso
  have:(Value.int .i64 k,v0) ∈ ar.toList.map (fun e=>(e.key,e.val)):=by rw [h2];exact List.mem_map.2 ⟨_,List.mem_of_getElem? hj,rfl⟩
  obtain ⟨e,he,e1⟩:=List.mem_map.1 this
  exact f2 e he (congrArg Prod.fst e1)
 ·have hi2:(es.map (fun p=>(Value.int .i64 p.1,p.2)))[i]?=some (e0.key,e0.val):=by rw [← h2,List.getElem?_map,f2];rfl
  rw [List.getElem?_map] at hi2
  obtain ⟨p,hp,e1⟩:=Option.map_eq_some_iff.1 hi2
  have e2:Value.int .i64 p.1=.int .i64 k:=(congrArg Prod.fst e1).trans f3
  have e3:p.1=k:=by injection e2
  have hij:=hu i p hp e3
  subst hij
  have hil:i<ar.size:=by
   have:=(List.getElem?_eq_some_iff.1 f2).1
   simpa using this
  have hrun:(Builtin.delete_ #[t,2] ty #[.map (some b),.int .i64 k]).run Tryz.prog w=.ok (.tuple #[]) { w with heap:=w.heap.setIfInBounds b (.map (ar.eraseIdxIfInBounds i) clock) }:=by
   simp [Builtin.delete_,run_underlying ht,MapKept.run_getObj_map h1,K.check w _ hkey,f1,MapKept.run_setObj_map _ h1,Result.andThen]
  refine ⟨_,hrun,⟨ar.eraseIdxIfInBounds i,clock,?_,?_,?_,MapKept.stamped_erase hS i⟩,?_,?_,⟨rfl,rfl,rfl,?_,?_⟩⟩
  ·simp [hlt]
  ·rw [Array.toList_eraseIdxIfInBounds,Zf7,h2,Zf7]
  ·intro p' hp'
   exact h3 p' (List.mem_of_mem_eraseIdx hp')
  ·simp
  ·intro q hq
   simp [Array.getElem?_setIfInBounds_ne (Ne.symm hq)]
  ·simp
  ·intro q hq
   have:q≠b:=by omega
   simp [Array.getElem?_setIfInBounds_ne (Ne.symm this)]
end
