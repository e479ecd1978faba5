/- Whatever order a region draws, where its last operation comes behind all others and writes: facts about the values of the others, then the last one. Regions that only read and call, whatever order they draw: the values that their operations leave are told once. Small things that the texts of this seat stand on. A range over a function whose rounds may panic: one round, out of its body's walk. -/
import Derived.Test.YteddjlbfbpecjaaGreatDoorJoin1
import Derived.Test.YteddjlbfbpecjaaGreatDoorRows
import Derived.BigQuiet
import Derived.Deep.QuietTactic
import Derived.Laws.Bits128
import Derived.Laws.MathBits
import Derived.Maps.AppendAt
import Derived.WalkKit
import Derived.WalkLawsBesides
import Derived.WalkMore
import Derived.WalkSmall
import Derived.WalkSpells
import Derived.RangeFuncKeeps
import Derived.RangeFuncBound
import Derived.RangeFuncCalls
import Derived.RangeFuncNested
import Derived.RangeFuncBox
import Derived.Shelf.Abstract
import Derived.Shelf.RegionOpen
import Derived.OwnWalkIn
import Derived.TacticsInMore
import Derived.LoopNIn
import Derived.LoopIn
namespace Go.Proofs.YteddjlbfbpecjaaGreatDoor
open Go.RowKit
set_option linter.unusedVariables false
variable {P:Program} {ops:Array Oper} {Q:Exit→Act→World→Prop}
theorem act_ext {base a b:Act} (ha:Same ops base a) (hb:Same ops base b) (h:∀ i,i<ops.size→val ops a i=val ops b i):a=b:=by
 obtain ⟨d1,s1,o1⟩:=ha
 obtain ⟨d2,s2,o2⟩:=hb
 have ht:a.tmps=b.tmps:=by
  apply Array.ext (by rw [s1,s2])
  intro t h1 h2
  by_cases hs:∃ i,i<ops.size∧slotOf ops i=some t
  ·obtain ⟨i,hi,hsl⟩:=hs
   have:=h i hi
   rw [val_eq hsl,val_eq hsl] at this
   simpa [Act.eval,Array.getD_eq_getD_getElem?,h1,h2] using this
  ·have hs':∀ i,i<ops.size→slotOf ops i≠some t:=fun i hi e=>hs ⟨i,hi,e⟩
   have:=(o1 t hs').trans (o2 t hs').symm
   simpa [h1,h2] using this
 cases a;cases b
 simp only at ht d1 d2
 subst ht
 rw [d1,d2]
theorem facts_last {A:Nat→List Nat} {F:Nat→Value→World→Prop} {base:Act} {w0:World} {id:Nat} (k:Nat) (hk:k+1=ops.size) (hkn:slotOf ops k=none)
  (hm:P.follows .mixedOrders=true) (hok:writesOk ops base.tmps.size A=true) (hdst:∀ i,i<k→∃ d,slotOf ops i=some d) (hAk:∀ i,i<k→i ∈ A k)
  (hmono:∀ i v w w',F i v w→Below w.heap.size w w'→F i v w')
  (hop:∀ i,i<k→∀ a w,Same ops base a→Below w0.heap.size w0 w→(∀ j ∈ A i,F j (val ops a j) w)→Does P ops Q F i a w)
  (hlast:∀ a w,Same ops base a→Below w0.heap.size w0 w→(∀ i,i<k→F i (val ops a i) w)→wpOp P ops Q k (fun a' w'=>(∃ v,a'=a.put (slotOf ops k) v)∧Q .normal a w') a w) :
  (Code.region id ops true).wp P Q base w0:=by
 refine writes_rule (A:=A) (G:=fun _ _=>True) (S:=fun l vs w=>(l k=false→Below w0.heap.size w0 w∧∀ i,l i=true→i<ops.size→F i (vs i) w)∧(l k=true→∀ b,Same ops base b→(∀ i,i<ops.size→i≠k→val ops b i=vs i)→Q .normal b w)) hm hok ⟨fun _=>⟨(Below.refl _ _).drew,fun i h=>(by cases h)⟩,fun h=>(by cases h)⟩ ?_ ?_
 ·rintro i hi l a w hS hli hcl hA ⟨hF0,hK⟩
  have hlk:l k=false:=by
   cases h:l k with
   | false=>rfl
   | true =>
    by_cases e:i=k
    ·rw [e,h] at hli;cases hli
    ·have:=hcl k h i (hAk i (by omega));rw [hli] at this;cases this
  obtain ⟨hB,hF⟩:=hF0 hlk
  by_cases e:i=k
  ·subst e
   refine wpOp_mono ?_ (hlast a w hS hB fun j hj=>hF j (hA j (hAk j hj)).1 (by omega))
   rintro a' w' ⟨⟨v,rfl⟩,hq⟩
   refine ⟨v,rfl,trivial,fun h=>?_,fun _ b hSb hv=>?_⟩
   ·rw [upd_same] at h;cases h
   ·have:b=a:=act_ext hSb hS fun j hj=>by
     by_cases ej:j=i
     ·subst ej;unfold val;rw [hkn]
     ·rw [hv j hj ej,upd_other _ _ ej]
    rw [this];exact hq
  ·have hik:i<k:=by omega
   have hlt:∀ j ∈ A i,j<ops.size:=by
    have key:∀ n i,i<n→i<ops.size→∀ j ∈ A i,j<ops.size:=by
     intro n
     induction n with
     | zero=>intro i h;omega
     | succ n ih =>
      intro i h hi j hj
      obtain ⟨o,_,_,_,hlt,_,hAA⟩:=laid_of hok i hi
      obtain ⟨e,he,hb,hor⟩:=hAA j hj
      have h1:=hlt e he hb
      rcases hor with rfl | h2
      ·omega
      ·exact ih e.on (by omega) (by omega) j h2
    exact key (i+1) i (by omega) hi
   refine wpOp_mono ?_ (hop i hik a w hS hB (fun j hj=>hF j (hA j hj).1 (hlt j hj)))
   rintro a' w' ⟨v,rfl,hFi,hb⟩
   obtain ⟨d,hd⟩:=hdst i hik
   obtain ⟨o,ho,hs,hdn,_,_,_⟩:=laid_of hok i hi
   have hsz:d<a.tmps.size:=by rw [hS.2.1];exact hdn d (hs▸hd)
   have hv:=val_put ho (hs▸hd:o.dst=some d) hsz v
   refine ⟨v,rfl,trivial,fun h=>⟨hB.trans (hb.mono hB.size),fun j hj hjs=>?_⟩,fun h=>?_⟩
   ·by_cases ej:j=i
    ·subst ej;rw [upd_same,hv];exact hFi
    ·rw [upd_other _ _ ej] at hj ⊢
     exact hmono _ _ _ _ (hF j hj hjs) hb
   ·rw [upd_other _ _ (Ne.symm e),hlk] at h;cases h
 ·rintro l a w hS hall ⟨hF,hK⟩
  exact hK (hall k (by omega)).1 a hS fun _ _ _=>rfl
theorem last_skip {k:Nat} {o:Oper} {a:Act} {w w':World} (ho:ops[k]?=some o) (hw:Region.wanted o (yielded ops a.tmps)=true)
  (hr:(execOp a.eval o).run P w=.ok .skip w') (hq:Q .normal a w'):wpOp P ops Q k (fun a' w'=>(∃ v,a'=a.put (slotOf ops k) v)∧Q .normal a w') a w:=by
 unfold wpOp
 simp only [ho,hw,if_true]
 refine .inl ?_
 unfold Oper.wp
 rw [hr,Oper.upon_skip]
 exact ⟨⟨undef,by simp [slotOf,ho]⟩,hq⟩
def slotsIn (ops:Array Oper) (ds:List Nat):Bool:=(List.range ops.size).all fun i=>match slotOf ops i with | some d=>ds.contains d | none=>true
theorem fold_set {f:Nat→Value}:∀ (ds:List Nat) (T:Array Value) (k:Nat),(ds.foldl (fun t d=>t.setIfInBounds d (f d)) T)[k]?=if k ∈ ds∧k<T.size then some (f k) else T[k]?
 | [],T,k=>by simp
 | d::ds,T,k=>by
  rw [List.foldl_cons,fold_set ds,Array.size_setIfInBounds]
  by_cases h1:k ∈ ds∧k<T.size
  ·rw [if_pos h1,if_pos ⟨List.mem_cons_of_mem _ h1.1,h1.2⟩]
  ·rw [if_neg h1]
   by_cases h2:k=d
   ·subst h2
    by_cases h3:k<T.size
    ·rw [if_pos ⟨List.mem_cons_self,h3⟩,Array.getElem?_setIfInBounds_self_of_lt h3]
    ·rw [if_neg (fun h=>h3 h.2)]
     rw [Array.getElem?_eq_none (by simpa using h3),Array.getElem?_eq_none (by simpa using h3)]
   ·rw [Array.getElem?_setIfInBounds_ne (Ne.symm h2)]
    rw [if_neg (fun h=>h1 ⟨(List.mem_cons.1 h.1).resolve_left h2,h.2⟩)]
theorem same_put {base c:Act} (h:Same ops base c) (ds:List Nat) (hds:slotsIn ops ds=true):c=⟨ds.foldl (fun t d=>t.setIfInBounds d (c.eval (.tmp d))) base.tmps,base.defers⟩:=by
 obtain ⟨tm,df⟩:=c
 obtain ⟨h1,h2,h3⟩:=h
 simp only at h1 h2 h3
 subst h1
 congr 1
 apply Array.ext_getElem?
 intro k
 rw [fold_set]
 by_cases hk:k ∈ ds∧k<base.tmps.size
 ·rw [if_pos hk]
  have hk':k<tm.size:=by omega
  simp [Act.eval,Array.getD_eq_getD_getElem?,hk']
 ·rw [if_neg hk]
  by_cases hz:k<base.tmps.size
  ·exact h3 k fun i hi e=>by
    have:=List.all_eq_true.1 hds i (List.mem_range.2 hi)
    rw [e] at this
    exact hk ⟨by simpa using this,hz⟩
  ·rw [Array.getElem?_eq_none (by omega),Array.getElem?_eq_none (by omega)]
end Go.Proofs.YteddjlbfbpecjaaGreatDoor

namespace Go.Proofs.YteddjlbfbpecjaaGreatDoor
open Go.RowKit
set_option linter.unusedVariables false
variable {P:Program} {R:Array Oper} {Q:Exit→Act→World→Prop}
structure Sig  where
 d:Nat
 op:Op
 ty:TypeId
 g:Option (Nat × Bool)
def Sig.oper (s:Sig) (pos:String) (af:Array Edge):Oper:=⟨some s.d,s.op,s.ty,pos,af,s.g⟩
def sigOf (o:Oper):Option Sig:=o.dst.map fun d=>⟨d,o.op,o.type,o.guard⟩
def sigsOf (ops:Array Oper):List (Option Sig):=ops.toList.map sigOf
def nth {α:Type} (d:α):List α→Nat→α
 | [],_=>d
 | a::_,0=>a
 | _::l,n+1=>nth d l n
theorem nth_getD {α:Type} (d:α):∀ (l:List α) (n:Nat),nth d l n=l.getD n d
 | [],n=>by cases n<;>rfl
 | a::l,0=>rfl
 | a::l,n+1=>by rw [nth,nth_getD d l n];rfl
def noSig  : Sig:=⟨0,.move (.tmp 0),0,none⟩
theorem nth_some {L:List Sig} {i:Nat} {s:Sig} (h:L[i]?=some s):nth noSig L i=s:=by rw [nth_getD,List.getD_eq_getElem?_getD,h];rfl
def look (L:List Sig) (c:Act) (q:Nat):Value:=c.eval (.tmp (nth noSig L q).d)
def EqAt (L:List Sig) (V:List Value) (c:Act):List Nat→Prop
 | []=>True
 | q::r=>look L c q=nth undef V q∧EqAt L V c r
def OpDo (P:Program) (s:Sig) (v:Value) (c:Act) (w:World):Prop :=
 (∀ pos af,(execOp c.eval (s.oper pos af)).run P w=.ok (.value v) w)∨∃ f args,(∀ pos af,(execOp c.eval (s.oper pos af)).run P w=.ok (.enter f args) w)∧Calls P f args w fun e w'=>e=.returned v∧Below w.heap.size w w'
def OpGoal (P:Program) (L:List Sig) (V:List Value) (s:Sig) (v:Value) (c:Act) (w:World):Prop :=
 match s.g with
 | none=>OpDo P s v c w
 | some (g,b)=>look L c g=nth undef V g∧((nth undef V g=.bool b∧OpDo P s v c w)∨((nth undef V g=.bool (!b)∨nth undef V g=undef)∧v=undef))
theorem od_static {d ty:Nat} {f:FuncId} {xs:Array Operand} {ats:Array TypeId} {g:Option (Nat × Bool)} {v:Value} {c:Act} {w:World} {args:Array Value} (hf:∀ (args:Array Value) (w:World),(callFunc f args).run P w=.ok (.enter f args) w) (hc:Calls P f args w fun e w'=>e=.returned v∧Below w.heap.size w w') (ha:xs.map c.eval=args) :
  OpDo P ⟨d,.call { callee:=.value (.func f),args:=xs,argTypes:=ats },ty,g⟩ v c w:=by
 subst ha
 refine .inr ⟨f,_,fun pos af=>?_,hc⟩
 have ef:c.eval (.func f)=.func (.func f) #[] #[]:=rfl
 dsimp only [Sig.oper]
 unfold execOp
 simp [resolve,invoke,ef,Deferred.ofValue,hf]
theorem sig_at {L:List Sig} (hL:sigsOf R=L.map some) {i:Nat} {s:Sig} (hi:L[i]?=some s):∃ pos af,R[i]?=some (s.oper pos af):=by
 have h1:(sigsOf R)[i]?=some (some s):=by rw [hL,List.getElem?_map,hi];rfl
 unfold sigsOf at h1
 rw [List.getElem?_map,Array.getElem?_toList] at h1
 obtain ⟨o,ho,h2⟩:=Option.map_eq_some_iff.1 h1
 obtain ⟨d,op,ty,pos,af,g⟩:=o
 unfold sigOf at h2
 cases d with
 | none=>cases h2
 | some d =>
  simp only [Option.map_some,Option.some.injEq] at h2
  subst h2
  exact ⟨pos,af,ho⟩
theorem sig_size {L:List Sig} (hL:sigsOf R=L.map some):R.size=L.length:=by
 have:=congrArg List.length hL
 simpa [sigsOf] using this
theorem val_look {L:List Sig} (hL:sigsOf R=L.map some) (c:Act) (q:Nat) (hq:q<L.length):val R c q=look L c q:=by
 obtain ⟨s,hs⟩:∃ s,L[q]?=some s:=⟨_,List.getElem?_eq_getElem hq⟩
 obtain ⟨pos,af,h⟩:=sig_at hL hs
 unfold look val slotOf
 rw [h,nth_some hs];rfl
theorem told_rule {base:Act} {w0:World} {id:Nat} (L:List Sig) (A:List (List Nat)) (V:List Value) {T:World→Prop} {B:Act→Prop} {n k d:Nat} {u:Value}
  (hL:sigsOf R=L.map some) (hn:L.length=n) (hA:(A.all fun l=>l.all fun q=>decide (q<n))=true) (hG:(L.all fun s=>match s.g with | none=>true | some (g,_)=>decide (g<n))=true) (hm:P.follows .mixedOrders=true) (hok:factsOk .any R base.tmps.size (fun i=>nth [] A i)=true)
  (hB:∀ c,Same R base c→B c) (hT:∀ w,Below w0.heap.size w0 w→T w)
  (hop:∀ i,i<n→(fun i=>∀ c w,B c→T w→EqAt L V c (nth [] A i)→OpGoal P L V (nth noSig L i) (nth undef V i) c w) i)
  (hk:k<n) (hd:(nth noSig L k).d=d) (hu:nth undef V k=u)
  (hQ:∀ c w,Same R base c→Below w0.heap.size w0 w→c.eval (.tmp d)=u→Q .normal c w):(Code.region id R true).wp P Q base w0:=by
 have hsz:=sig_size hL
 have hAi:∀ i,∀ q ∈ nth [] A i,q<n:=fun i q hq=>by
  rw [nth_getD,List.getD_eq_getElem?_getD] at hq
  cases hi:A[i]? with
  | none=>rw [hi] at hq;simp at hq
  | some l =>
   rw [hi] at hq
   exact of_decide_eq_true (List.all_eq_true.1 (List.all_eq_true.1 hA l (List.mem_of_getElem? hi)) q hq)
 refine facts_rule (A:=fun i=>nth [] A i) (F:=fun i v _=>v=nth undef V i) hm hok (fun i v w w' h _=>h) ?_ ?_
 ·intro i hi c w hS hb hF
  have hE:∀ l:List Nat,(∀ j ∈ l,j<n)→(∀ j ∈ l,val R c j=nth undef V j)→EqAt L V c l:=by
   intro l
   induction l with
   | nil=>intro _ _;trivial
   | cons q r ih=>intro hl h;exact ⟨(val_look hL c q (by have:=hl q List.mem_cons_self;omega)).symm.trans (h q List.mem_cons_self),ih (fun j hj=>hl j (List.mem_cons_of_mem _ hj)) fun j hj=>h j (List.mem_cons_of_mem _ hj)⟩
  have h:=hop i (by omega) c w (hB c hS) (hT w hb) (hE _ (hAi i) hF)
  obtain ⟨s,hs⟩:∃ s,L[i]?=some s:=⟨_,List.getElem?_eq_getElem (by omega)⟩
  obtain ⟨pos,af,ho⟩:=sig_at hL hs
  rw [nth_some hs] at h
  have doit:Region.wanted (s.oper pos af) (yielded R c.tmps)=true→OpDo P s (nth undef V i) c w→Does P R Q (fun i v _=>v=nth undef V i) i c w:=by
   intro hw h
   rcases h with h | ⟨f,args,h1,h2⟩
   ·exact does_value ho hw (h pos af) rfl (Below.refl _ _)
   ·exact does_call ho hw (h1 pos af) (h2.mono fun e w' ⟨e1,e2⟩=>⟨_,e1,rfl,e2⟩)
  dsimp only [OpGoal] at h
  cases hg:s.g with
  | none =>
   rw [hg] at h
   dsimp only at h
   exact doit (want_none hg) h
  | some gb =>
   obtain ⟨g,b⟩:=gb
   have hgn:g<n:=by
    have:=List.all_eq_true.1 hG s (List.mem_of_getElem? hs)
    rw [hg] at this
    exact of_decide_eq_true this
   rw [hg] at h
   dsimp only at h
   obtain ⟨hl,h⟩:=h
   have hv:val R c g=nth undef V g:=(val_look hL c g (by omega)).trans hl
   rcases h with ⟨e,h⟩ | ⟨e | e,hz⟩
   ·exact doit (want_eq (g:=g) (b:=b) hg (hv.trans e)) h
   ·refine does_not ho ?_ hz.symm
    rw [want_val (g:=g) (want:=b) (o:=s.oper pos af) hg (hv.trans e)]
    cases b<;>rfl
   ·refine does_not ho ?_ hz.symm
    rw [want_gv (g:=g) (want:=b) (b:=false) (x:=true) (o:=s.oper pos af) hg (hv.trans e)];rfl
 ·intro c w hS hb hF
  refine hQ c w hS hb ?_
  have h:=hF k (by omega)
  rw [val_look hL c k (by omega)] at h
  unfold look at h
  rw [hd,hu] at h
  exact h
def peek (c:Act) (k:Nat):Value:=c.eval (.tmp k)
theorem same_peek {base c:Act} (h:Same R base c) (ds:List Nat) (hds:slotsIn R ds=true):c=⟨ds.foldl (fun t d=>t.setIfInBounds d (peek c d)) base.tmps,base.defers⟩:=same_put h ds hds
end Go.Proofs.YteddjlbfbpecjaaGreatDoor

namespace Go.Proofs.YteddjlbfbpecjaaGreatDoor
open Go.RowKit
set_option linter.unusedVariables false
theorem below_alloc {w w':World} {o:Obj} (h:Below (w.alloc o).heap.size (w.alloc o) w'):Below w.heap.size w w' :=
 ((Below.refl _ _).alloc (Nat.le_refl _) o).trans (h.mono (by simp))
theorem below_on {w w1 w2:World} (h:Below w.heap.size w w1) (k:Below w1.heap.size w1 w2):Below w.heap.size w w2:=h.trans (k.mono h.size)
end Go.Proofs.YteddjlbfbpecjaaGreatDoor

namespace Go.Proofs.YteddjlbfbpecjaaGreatDoor
open Go.RowKit
set_option linter.unusedVariables false
variable {F:Fence} {n:Nat} {P:Program}
def asBusy (r:Loop):Loop:={ r with state:=.busy }
def asReady (r:Loop):Loop:={ r with state:=.ready,pending:=none }
def asDone (r:Loop) (c:Code):Loop:={ r with state:=.done,pending:=some c }
def asSpent (r:Loop):Loop:={ r with state:=.exhausted }
def leftBy (P:Program) (l:Nat) (rec:Loop) (R:Ending→World→Prop):Exit→Act→World→Prop
 | .normal,_,W=>W.heap[l]?=some (.loop (asBusy rec))∧R (.returned (.bool true)) (W.putObj l (.loop (asReady rec)))
 | .ret,_,W=>W.heap[l]?=some (.loop (asBusy rec))∧R (.returned (.bool false)) (W.putObj l (.loop (asDone rec .ret)))
 | .exit id,_,W=>W.heap[l]?=some (.loop (asBusy rec))∧R (.returned (.bool false)) (W.putObj l (.loop (asDone rec (.exit id))))
 | .panic ch,a,W=>a.defers=[]∧(∃ fn,P.funcs[rec.fn]?=some fn)∧R (.panicked ch) W
 | _,_,_=>False
theorem yield_round {l:Nat} {rec:Loop} {W:World} {args:Array Value} {R:Ending→World→Prop} {assign body:Code} {tmps:Array Value} {params:Array Tmp} (hfn:F.fn rec.fn) (ea:assign=rec.assign) (eb:body=rec.body) (et:tmps=rec.tmps) (ep:params=rec.params)
  (hl:W.heap[l]?=some (.loop rec)) (hready:rec.state=.ready) (hsz:args.size=rec.params.size)
  (hround:assign.wpIn (F.inRound l) n P (Exit.then (fun a₁ W₁=>W₁.heap[l]?=some (.loop rec)∧body.wpIn (F.inRound l) n P (leftBy P l rec R) a₁ (W₁.putObj l (.loop (asBusy rec)))) (fun _ _ _=>False))
   { tmps:=(params.zip args).foldl (fun tmps (t,a)=>tmps.setIfInBounds t a) tmps,defers:=[] } W) :
  YieldAt F n P l args W R:=by
 subst ea eb et ep
 refine ⟨rec.fn,_,rec.assign,rec.body,run_yield hl hsz,hfn,fun c cs hr=>?_⟩
 have hr':(F.inRound l).room ((c::cs).length+1+n):=hr
 obtain ⟨e,a,w,hq,harr⟩:=hround { (default:Frame) with fn:=rec.fn,kind:=.normal,roundOf:=some l } [.beginRound,.code rec.body] (c::cs) rfl hfn hr'
 cases e with
 | normal =>
  obtain ⟨hl2,hbody⟩:=hq
  have s0:=StepsIn.one (I:=Machine.fenced P (F.inRound l)) (fenced_calm (fr:=Frame.atR { (default:Frame) with fn:=rec.fn,kind:=.normal,roundOf:=some l } a [.beginRound,.code rec.body]) hfn hr' rfl)
   (stepR_beginRound (P:=P) (b:={ (default:Frame) with fn:=rec.fn,kind:=.normal,roundOf:=some l }) (a:=a) (k:=[.code rec.body]) (cs:=c::cs) rfl (run_beginRound hl2 hready))
  obtain ⟨e,a2,w2,hq,harr2⟩:=hbody { (default:Frame) with fn:=rec.fn,kind:=.normal,roundOf:=some l } [] (c::cs) rfl hfn hr'
  have hgo:=StepsIn.trans harr s0
  cases e with
  | normal =>
   obtain ⟨h1,h2⟩:=hq
   have hend:=run_endRound (P:=P) none h1
   exact ⟨_,_,h2,hgo.trans (StepsIn.trans harr2 (.one (fenced_calm hfn hr' rfl) (stepR_round_end rfl rfl hend)))⟩
  | ret =>
   obtain ⟨h1,h2⟩:=hq
   have hend:=run_endRound (P:=P) (some .ret) h1
   obtain ⟨k1,hs⟩:=harr2.2 rfl
   exact ⟨_,_,h2,hgo.trans (StepsIn.trans hs (.one (fenced_calm hfn hr' rfl) (stepR_round_ret rfl rfl hend)))⟩
  | exit id =>
   obtain ⟨h1,h2⟩:=hq
   have hend:=run_endRound (P:=P) (some (.exit id)) h1
   obtain ⟨k1,hk,hs⟩:=harr2.2 rfl rfl
   exact ⟨_,_,h2,hgo.trans (StepsIn.trans hs (.one (fenced_calm hfn hr' rfl) (stepR_round_exit rfl rfl hk hend)))⟩
  | panic ch =>
   obtain ⟨h1,⟨fn,hex⟩,h2⟩:=hq
   obtain ⟨todo,hs⟩:=harr2
   refine ⟨.panicked ch,w2,h2,hgo.trans (StepsIn.trans hs (.one ?_ (step_leave_panicked ⟨rfl,h1,fn,hex⟩)))⟩
   exact fenced_leaving (e:=.panicked ch) hfn hr' ⟨rfl,h1,fn,hex⟩
  | goto t=>exact hq.elim
  | outgrown=>exact hq.elim
 | exit id=>exact hq.elim
 | goto t=>exact hq.elim
 | ret=>exact hq.elim
 | panic ch=>exact hq.elim
 | outgrown=>exact hq.elim
def behind (F:Fence) (n:Nat) (P:Program) (l:Nat) (Q:Exit→Act→World→Prop) (a:Act):Ending→World→Prop
 | .returned _,W=>∃ rec:Loop,W.heap[l]?=some (.loop rec)∧rec.state≠.busy ∧
   (match rec.pending with
     | none=>Q .normal a (W.putObj l (.loop (asSpent rec)))
     | some c=>c.wpIn F n P Q a (W.putObj l (.loop (asSpent rec))))
 | .panicked ch,W=>Q (.panic ch) a W
 | .outgrown,_=>False
theorem range_wp {g:Operand} {ps:Array Tmp} {assign body:Code} {Q:Exit→Act→World→Prop} {a:Act} {w:World} (hro:F.round=none) (hn:F.depth=none)
  {gf:Nat} {lb:Array Value} (hg:a.eval g=.func (.func gf) #[] lb) (hFg:F.fn gf) (eg:∀ args w,(callFunc gf args).run P w=.ok (.enter gf args) w)
  (h:∀ fn,F.fn fn→CallsIn F (n - 1) P gf (#[.func (.yield (w.heap.size+1)) #[] #[]]++lb)
   ((w.alloc (.deferred (some []))).alloc (.loop { state:=.ready,pending:=none,fn,tmps:=a.tmps,params:=ps,assign,body,defers:=w.heap.size }))
   (behind F n P (w.heap.size+1) Q { a with defers:={ target:=.collected w.heap.size,args:=#[] }::a.defers })) :
  (Code.rangeFunc g ps assign body).wpIn F n P Q a w:=by
 refine wpIn_rangeFunc fun fn hfn=>?_
 refine ⟨_,_,_,{ target:=.fn (.func gf) lb,args:=#[.func (.yield (w.heap.size+1)) #[] #[]] },
  (w.alloc (.deferred (some []))).alloc (.loop { state:=.ready,pending:=none,fn,tmps:=a.tmps,params:=ps,assign,body,defers:=w.heap.size }),gf,_,_,(by rw [hro];exact run_enterLoop_outer _ _ _ _ _),?_,?_,?_,fun hs=>(by rw [hn] at hs;cases hs),(h fn hfn).mono ?_⟩
 ·simp only [resolve,hg];simp [go_sem]
 ·intro f' hf';simp [Target.leads] at hf';subst hf';exact hFg
 ·simp [invoke,go_sem,eg]
 ·rintro e W hb
  cases e with
  | returned v =>
   obtain ⟨rec,h1,h2,h3⟩:=hb
   refine ⟨rec.pending,_,run_endLoop h1 h2,?_⟩
   have e:(asSpent rec)={ rec with state:=.exhausted }:=rfl
   rw [e] at h3
   cases hp:rec.pending<;>simp only [hp] at h3 ⊢<;>exact h3
  | panicked ch=>exact hb
  | outgrown=>exact hb.elim
structure Above (C:Nat) (W W':World):Prop where
 size:W.heap.size≤W'.heap.size
 block:∀ k,C≤k→k<W.heap.size→W'.heap[k]?=W.heap[k]?
theorem Above.refl (C:Nat) (W:World):Above C W W:=⟨Nat.le_refl _,fun _ _ _=>rfl⟩
theorem Above.trans {C:Nat} {A B D:World} (h:Above C A B) (k:Above C B D):Above C A D :=
 ⟨Nat.le_trans h.size k.size,fun i hi hl=>(k.block i hi (Nat.lt_of_lt_of_le hl h.size)).trans (h.block i hi hl)⟩
theorem Above.of_below {C B:Nat} {A D:World} (h:Below B A D) (hB:A.heap.size≤B):Above C A D:=⟨h.size,fun i _ hl=>h.block i (by omega)⟩
theorem Above.cell {C:Nat} {W W':World} (h:Above C W W') {p:Addr} (h1:C≤p.block) (h2:p.block<W.heap.size):W'.cell? p=W.cell? p:=World.cell?_of_block (h.block _ h1 h2)
theorem Above.alloc {C:Nat} {A D:World} (h:Above C A D) (o:Obj):Above C A (D.alloc o):=h.trans ⟨by simp,fun k _ hl=>Below.heap_alloc _ _ _ hl⟩
theorem heap_alloc_at (w:World) (o:Obj) (k:Nat):(w.alloc o).heap[k]?=if k=w.heap.size then some o else w.heap[k]?:=by
 show (w.heap.push o)[k]?=_
 rw [Array.getElem?_push]
structure But (i:Nat) (A B:World):Prop where
 os:B.os=A.os
 tape:B.tape=A.tape
 output:B.output=A.output
 size:B.heap.size=A.heap.size
 block:∀ k,k≠i→B.heap[k]?=A.heap[k]?
theorem But.refl (i:Nat) (A:World):But i A A:=⟨rfl,rfl,rfl,rfl,fun _ _=>rfl⟩
theorem But.setCell {i:Nat} {A B:World} (h:But i A B) {p:Addr} (hp:p.block=i) (u:Value):But i A (B.setCell p u) :=
 ⟨h.os,h.tape,h.output,(by simp [World.setCell,h.size]),fun k hk=>(Below.heap_setCell _ _ _ _ (by omega)).trans (h.block k hk)⟩
theorem But.cell {i:Nat} {A B:World} (h:But i A B) {p:Addr} (hp:p.block≠i):B.cell? p=A.cell? p:=World.cell?_of_block (h.block _ hp)
theorem But.below {i n:Nat} {w A B:World} (h:But i A B) (k:Below n w A) (hi:n≤i):Below n w B :=
 ⟨h.os.trans k.os,h.tape.trans k.tape,h.output.trans k.output,(by rw [h.size];exact k.size),fun j hj=>(h.block j (by omega)).trans (k.block j hj)⟩
theorem But.putObj {A:World} (i:Nat) (o:Obj):But i A (A.putObj i o):=⟨rfl,rfl,rfl,(by simp),fun k hk=>World.putObj_heap_other hk⟩
theorem room_of_none {F:Fence} (hd:F.depth=none) (k:Nat):F.room k:=fun d h=>by rw [hd] at h;cases h
theorem depth_none {F:Fence} (hd:F.depth=none) (k:Nat):(F.depth.isSome=true→1≤k):=fun h=>by rw [hd] at h;cases h
end Go.Proofs.YteddjlbfbpecjaaGreatDoor

