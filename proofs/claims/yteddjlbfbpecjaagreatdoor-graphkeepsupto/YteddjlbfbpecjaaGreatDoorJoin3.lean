/- A range over a function whose rounds may panic: one round, out of its body's walk. Small things of worlds and cells. A graph that is not there: all that is asked of it. A graph of nothing: it may be, and is made. -/
import Derived.RangeFuncKeeps
import Derived.RangeFuncBound
import Derived.RangeFuncCalls
import Derived.RangeFuncNested
import Derived.RangeFuncBox
import Derived.Shelf.Abstract
import Derived.Shelf.RegionOpen
import Derived.WalkKit
import Derived.OwnWalkIn
import Derived.TacticsInMore
import Derived.LoopNIn
import Derived.LoopIn
import Derived.Test.YteddjlbfbpecjaaGreatDoorJoin2
import Derived.Test.YteddjlbfbpecjaaGreatDoorJoin1
import Derived.Below
import Derived.BigQuiet
import Derived.RangeFuncRecord
import Derived.Deep.RegionWith
import Derived.Deep.Cut
namespace Go.Proofs.YteddjlbfbpecjaaGreatDoor
open Go.RowKit
set_option linter.unusedVariables false
variable {F:Fence} {n:Nat} {P:Program}
def asBusy (r:Loop):Loop:={ r with state:=.busy }
def asReady (r:Loop):Loop:={ r with state:=.ready,pending:=none }
def asDone (r:Loop) (c:Code):Loop:={ r with state:=.done,pending:=some c }
def asSpent (r:Loop):Loop:={ r with state:=.exhausted }
def leftBy (P:Program) (l:Nat) (rec:Loop) (R:Ending→World→Prop):Exit→Act→World→Prop
 | .normal,_,W=>W.heap[l]?=some (.loop (asBusy rec))∧R (.returned (.bool true)) (W.putObj l (.loop (asReady rec)))
 | .ret,_,W=>W.heap[l]?=some (.loop (asBusy rec))∧R (.returned (.bool false)) (W.putObj l (.loop (asDone rec .ret)))
 | .exit id,_,W=>W.heap[l]?=some (.loop (asBusy rec))∧R (.returned (.bool false)) (W.putObj l (.loop (asDone rec (.exit id))))
 | .panic ch,a,W=>a.defers=[]∧(∃ fn,P.funcs[rec.fn]?=some fn)∧R (.panicked ch) W
 | _,_,_=>False
theorem yield_round {l:Nat} {rec:Loop} {W:World} {args:Array Value} {R:Ending→World→Prop} {assign body:Code} {tmps:Array Value} {params:Array Tmp} (hfn:F.fn rec.fn) (ea:assign=rec.assign) (eb:body=rec.body) (et:tmps=rec.tmps) (ep:params=rec.params)
  (hl:W.heap[l]?=some (.loop rec)) (hready:rec.state=.ready) (hsz:args.size=rec.params.size)
  (hround:assign.wpIn (F.inRound l) n P (Exit.then (fun a₁ W₁=>W₁.heap[l]?=some (.loop rec)∧body.wpIn (F.inRound l) n P (leftBy P l rec R) a₁ (W₁.putObj l (.loop (asBusy rec)))) (fun _ _ _=>False))
   { tmps:=(params.zip args).foldl (fun tmps (t,a)=>tmps.setIfInBounds t a) tmps,defers:=[] } W) :
  YieldAt F n P l args W R:=by
 subst ea eb et ep
 refine ⟨rec.fn,_,rec.assign,rec.body,run_yield hl hsz,hfn,fun c cs hr=>?_⟩
 have hr':(F.inRound l).room ((c::cs).length+1+n):=hr
 obtain ⟨e,a,w,hq,harr⟩:=hround { (default:Frame) with fn:=rec.fn,kind:=.normal,roundOf:=some l } [.beginRound,.code rec.body] (c::cs) rfl hfn hr'
 cases e with
 | normal =>
  obtain ⟨hl2,hbody⟩:=hq
  have s0:=StepsIn.one (I:=Machine.fenced P (F.inRound l)) (fenced_calm (fr:=Frame.atR { (default:Frame) with fn:=rec.fn,kind:=.normal,roundOf:=some l } a [.beginRound,.code rec.body]) hfn hr' rfl)
   (stepR_beginRound (P:=P) (b:={ (default:Frame) with fn:=rec.fn,kind:=.normal,roundOf:=some l }) (a:=a) (k:=[.code rec.body]) (cs:=c::cs) rfl (run_beginRound hl2 hready))
  obtain ⟨e,a2,w2,hq,harr2⟩:=hbody { (default:Frame) with fn:=rec.fn,kind:=.normal,roundOf:=some l } [] (c::cs) rfl hfn hr'
  have hgo:=StepsIn.trans harr s0
  cases e with
  | normal =>
   obtain ⟨h1,h2⟩:=hq
   have hend:=run_endRound (P:=P) none h1
   exact ⟨_,_,h2,hgo.trans (StepsIn.trans harr2 (.one (fenced_calm hfn hr' rfl) (stepR_round_end rfl rfl hend)))⟩
  | ret =>
   obtain ⟨h1,h2⟩:=hq
   have hend:=run_endRound (P:=P) (some .ret) h1
   obtain ⟨k1,hs⟩:=harr2.2 rfl
   exact ⟨_,_,h2,hgo.trans (StepsIn.trans hs (.one (fenced_calm hfn hr' rfl) (stepR_round_ret rfl rfl hend)))⟩
  | exit id =>
   obtain ⟨h1,h2⟩:=hq
   have hend:=run_endRound (P:=P) (some (.exit id)) h1
   obtain ⟨k1,hk,hs⟩:=harr2.2 rfl rfl
   exact ⟨_,_,h2,hgo.trans (StepsIn.trans hs (.one (fenced_calm hfn hr' rfl) (stepR_round_exit rfl rfl hk hend)))⟩
  | panic ch =>
   obtain ⟨h1,⟨fn,hex⟩,h2⟩:=hq
   obtain ⟨todo,hs⟩:=harr2
   refine ⟨.panicked ch,w2,h2,hgo.trans (StepsIn.trans hs (.one ?_ (step_leave_panicked ⟨rfl,h1,fn,hex⟩)))⟩
   exact fenced_leaving (e:=.panicked ch) hfn hr' ⟨rfl,h1,fn,hex⟩
  | goto t=>exact hq.elim
  | outgrown=>exact hq.elim
 | exit id=>exact hq.elim
 | goto t=>exact hq.elim
 | ret=>exact hq.elim
 | panic ch=>exact hq.elim
 | outgrown=>exact hq.elim
def behind (F:Fence) (n:Nat) (P:Program) (l:Nat) (Q:Exit→Act→World→Prop) (a:Act):Ending→World→Prop
 | .returned _,W=>∃ rec:Loop,W.heap[l]?=some (.loop rec)∧rec.state≠.busy ∧
   (match rec.pending with
     | none=>Q .normal a (W.putObj l (.loop (asSpent rec)))
     | some c=>c.wpIn F n P Q a (W.putObj l (.loop (asSpent rec))))
 | .panicked ch,W=>Q (.panic ch) a W
 | .outgrown,_=>False
theorem range_wp {g:Operand} {ps:Array Tmp} {assign body:Code} {Q:Exit→Act→World→Prop} {a:Act} {w:World} (hro:F.round=none) (hn:F.depth=none)
  {gf:Nat} {lb:Array Value} (hg:a.eval g=.func (.func gf) #[] lb) (hFg:F.fn gf) (eg:∀ args w,(callFunc gf args).run P w=.ok (.enter gf args) w)
  (h:∀ fn,F.fn fn→CallsIn F (n - 1) P gf (#[.func (.yield (w.heap.size+1)) #[] #[]]++lb)
   ((w.alloc (.deferred (some []))).alloc (.loop { state:=.ready,pending:=none,fn,tmps:=a.tmps,params:=ps,assign,body,defers:=w.heap.size }))
   (behind F n P (w.heap.size+1) Q { a with defers:={ target:=.collected w.heap.size,args:=#[] }::a.defers })) :
  (Code.rangeFunc g ps assign body).wpIn F n P Q a w:=by
 refine wpIn_rangeFunc fun fn hfn=>?_
 refine ⟨_,_,_,{ target:=.fn (.func gf) lb,args:=#[.func (.yield (w.heap.size+1)) #[] #[]] },
  (w.alloc (.deferred (some []))).alloc (.loop { state:=.ready,pending:=none,fn,tmps:=a.tmps,params:=ps,assign,body,defers:=w.heap.size }),gf,_,_,(by rw [hro];exact run_enterLoop_outer _ _ _ _ _),?_,?_,?_,fun hs=>(by rw [hn] at hs;cases hs),(h fn hfn).mono ?_⟩
 ·simp only [resolve,hg];simp [go_sem]
 ·intro f' hf';simp [Target.leads] at hf';subst hf';exact hFg
 ·simp [invoke,go_sem,eg]
 ·rintro e W hb
  cases e with
  | returned v =>
   obtain ⟨rec,h1,h2,h3⟩:=hb
   refine ⟨rec.pending,_,run_endLoop h1 h2,?_⟩
   have e:(asSpent rec)={ rec with state:=.exhausted }:=rfl
   rw [e] at h3
   cases hp:rec.pending<;>simp only [hp] at h3 ⊢<;>exact h3
  | panicked ch=>exact hb
  | outgrown=>exact hb.elim
structure Above (C:Nat) (W W':World):Prop where
 size:W.heap.size≤W'.heap.size
 block:∀ k,C≤k→k<W.heap.size→W'.heap[k]?=W.heap[k]?
theorem Above.refl (C:Nat) (W:World):Above C W W:=⟨Nat.le_refl _,fun _ _ _=>rfl⟩
theorem Above.trans {C:Nat} {A B D:World} (h:Above C A B) (k:Above C B D):Above C A D :=
 ⟨Nat.le_trans h.size k.size,fun i hi hl=>(k.block i hi (Nat.lt_of_lt_of_le hl h.size)).trans (h.block i hi hl)⟩
theorem Above.of_below {C B:Nat} {A D:World} (h:Below B A D) (hB:A.heap.size≤B):Above C A D:=⟨h.size,fun i _ hl=>h.block i (by omega)⟩
theorem Above.cell {C:Nat} {W W':World} (h:Above C W W') {p:Addr} (h1:C≤p.block) (h2:p.block<W.heap.size):W'.cell? p=W.cell? p:=World.cell?_of_block (h.block _ h1 h2)
theorem Above.alloc {C:Nat} {A D:World} (h:Above C A D) (o:Obj):Above C A (D.alloc o):=h.trans ⟨by simp,fun k _ hl=>Below.heap_alloc _ _ _ hl⟩
theorem heap_alloc_at (w:World) (o:Obj) (k:Nat):(w.alloc o).heap[k]?=if k=w.heap.size then some o else w.heap[k]?:=by
 show (w.heap.push o)[k]?=_
 rw [Array.getElem?_push]
structure But (i:Nat) (A B:World):Prop where
 os:B.os=A.os
 tape:B.tape=A.tape
 output:B.output=A.output
 size:B.heap.size=A.heap.size
 block:∀ k,k≠i→B.heap[k]?=A.heap[k]?
theorem But.refl (i:Nat) (A:World):But i A A:=⟨rfl,rfl,rfl,rfl,fun _ _=>rfl⟩
theorem But.setCell {i:Nat} {A B:World} (h:But i A B) {p:Addr} (hp:p.block=i) (u:Value):But i A (B.setCell p u) :=
 ⟨h.os,h.tape,h.output,(by simp [World.setCell,h.size]),fun k hk=>(Below.heap_setCell _ _ _ _ (by omega)).trans (h.block k hk)⟩
theorem But.cell {i:Nat} {A B:World} (h:But i A B) {p:Addr} (hp:p.block≠i):B.cell? p=A.cell? p:=World.cell?_of_block (h.block _ hp)
theorem But.below {i n:Nat} {w A B:World} (h:But i A B) (k:Below n w A) (hi:n≤i):Below n w B :=
 ⟨h.os.trans k.os,h.tape.trans k.tape,h.output.trans k.output,(by rw [h.size];exact k.size),fun j hj=>(h.block j (by omega)).trans (k.block j hj)⟩
theorem But.putObj {A:World} (i:Nat) (o:Obj):But i A (A.putObj i o):=⟨rfl,rfl,rfl,(by simp),fun k hk=>World.putObj_heap_other hk⟩
theorem room_of_none {F:Fence} (hd:F.depth=none) (k:Nat):F.room k:=fun d h=>by rw [hd] at h;cases h
theorem depth_none {F:Fence} (hd:F.depth=none) (k:Nat):(F.depth.isSome=true→1≤k):=fun h=>by rw [hd] at h;cases h
end Go.Proofs.YteddjlbfbpecjaaGreatDoor

namespace Go.Proofs.YteddjlbfbpecjaaGreatDoor
open Go.RowKit Go.Shelf
set_option linter.unusedVariables false
theorem hidE {p:Prop} (h:p):Hid p:=h
theorem lt_of_cell {w:World} {p:Addr} {v:Value} (h:w.cell? p=some v):p.block<w.heap.size:=by
 obtain ⟨o,ho,_⟩:=cells_of_cell h
 exact (Array.getElem?_eq_some_iff.1 ho).1
theorem cell_below {B:Nat} {w w':World} (h:Below B w w') (hB:w.heap.size≤B) {p:Addr} {v:Value} (hc:w.cell? p=some v):w'.cell? p=some v :=
 (h.cell (p:=p) (Nat.lt_of_lt_of_le (lt_of_cell hc) hB)).trans hc
theorem cell_new (W:World) (cs:Array Value) (ty:TypeId) (i:Nat) (v:Value) (h:cs[i]?=some v):(W.alloc (.cells cs ty)).cell? ⟨W.heap.size,i,none⟩=some v:=by
 have e:=World.alloc_heap_new W (.cells cs ty)
 unfold World.cell?
 simp only [e,h]
 rfl
theorem ne_bool {a b:Int} (h:a≠b):(a==b)=false:=beq_eq_false_iff_ne.2 h
theorem eq_bool {a b:Int} (h:a=b):(a==b)=true:=beq_iff_eq.2 h
end Go.Proofs.YteddjlbfbpecjaaGreatDoor

namespace Go.Proofs.YteddjlbfbpecjaaGreatDoor
open Go.RowKit Go.Shelf
set_option linter.unusedVariables false
set_option linter.unusedSimpArgs false
attribute [local go_sem] Oper.semAt_some
structure St  where
 k:Int
 id:Int
 to_:Int
 rel:Bool
 key:ByteArray
 la:Option Addr
 ln:Nat
 lc:Nat
 pa:Option Addr
 pn:Nat
 pc:Nat
 vk:Int
 vb:Bool
 vn:Int
 vs:ByteArray
 ka:Option Addr
 kn:Nat
 kc:Nat
 ya:Option Addr
 yn:Nat
 yc:Nat
def St.cells (s:St):Array Value:=#[.int .i64 s.k,.int .i64 s.id,.int .i64 s.to_,.bool s.rel,.string s.key,.slice s.la s.ln s.lc,.slice s.pa s.pn s.pc,.int .i64 s.vk,.bool s.vb,.int .i64 s.vn,.string s.vs,.slice s.ka s.kn s.kc,.slice s.ya s.yn s.yc]
def St.val (s:St):Value:=.agg s.cells
theorem st_cell {s:St} {w:World} {b i:Nat} {v:Value} (h:w.heap[b]?=some (.cells s.cells 62 (0,0))) (hi:s.cells[i]?=some v):w.cell? ⟨b,i,none⟩=some v:=by
 simp [World.cell?,h,hi]
end Go.Proofs.YteddjlbfbpecjaaGreatDoor

namespace Go.Proofs.YteddjlbfbpecjaaGreatDoor
open Go.RowKit Go.Shelf
set_option linter.unusedVariables false
set_option linter.unusedSimpArgs false
attribute [local go_sem] Oper.semAt_some
def ruL  : List Value:=[.func (.func 93) #[] #[],.func (.func 94) #[] #[],.func (.func 95) #[] #[],.func (.func 96) #[] #[],.func (.func 97) #[] #[],.func (.func 98) #[] #[]]
set_option maxRecDepth 100000 in
theorem rules_any (w:World):Calls Tryz.prog 34 #[] w fun e w'=>e=.returned (.slice (some ⟨w.heap.size,0,none⟩) 6 6)∧Below w.heap.size w w'∧∀ q v,ruL[q]?=some v→w'.cell? ⟨w.heap.size,q,none⟩=some v:=by
 go_enter Tryz.func34,Tryz.ntmps34
 go_wp2_with fail
 generalize hW1:World.alloc _ _=W1
 have HB1:Hid (Below w.heap.size w W1):=by rw [← hW1];exact (Below.refl _ _).alloc (Nat.le_refl _) _
 have HT:Hid (∀ q v,ruL[q]?=some v→W1.cell? ⟨w.heap.size,q,none⟩=some v):=by
  intro q v hq
  rw [← hW1]
  refine cell_new _ _ _ _ _ ?_
  have:ruL.toArray[q]?=some v:=by rw [List.getElem?_toArray,hq]
  exact this
 clear hW1
 go_ret
 exact ⟨rfl,HB1.out,HT.out⟩
end Go.Proofs.YteddjlbfbpecjaaGreatDoor

