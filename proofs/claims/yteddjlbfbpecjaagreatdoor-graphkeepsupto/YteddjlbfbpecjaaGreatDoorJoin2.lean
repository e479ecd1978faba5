/- Regions that only read and call, whatever order they draw: the values that their operations leave are told once. Regions of which some operations are told by their values. Small things that the texts of this seat stand on. -/
import Derived.Test.YteddjlbfbpecjaaGreatDoorJoin1
import Derived.Test.YteddjlbfbpecjaaGreatDoorRows
import Derived.BigQuiet
import Derived.Deep.QuietTactic
import Derived.Laws.Bits128
import Derived.Laws.MathBits
import Derived.Maps.AppendAt
import Derived.WalkKit
import Derived.WalkLawsBesides
import Derived.WalkMore
import Derived.WalkSmall
import Derived.WalkSpells
namespace Go.Proofs.YteddjlbfbpecjaaGreatDoor
open Go.RowKit
set_option linter.unusedVariables false
variable {P:Program} {R:Array Oper} {Q:Exit→Act→World→Prop}
structure Sig  where
 d:Nat
 op:Op
 ty:TypeId
 g:Option (Nat × Bool)
def Sig.oper (s:Sig) (pos:String) (af:Array Edge):Oper:=⟨some s.d,s.op,s.ty,pos,af,s.g⟩
def sigOf (o:Oper):Option Sig:=o.dst.map fun d=>⟨d,o.op,o.type,o.guard⟩
def sigsOf (ops:Array Oper):List (Option Sig):=ops.toList.map sigOf
def nth {α:Type} (d:α):List α→Nat→α
 | [],_=>d
 | a::_,0=>a
 | _::l,n+1=>nth d l n
theorem nth_getD {α:Type} (d:α):∀ (l:List α) (n:Nat),nth d l n=l.getD n d
 | [],n=>by cases n<;>rfl
 | a::l,0=>rfl
 | a::l,n+1=>by rw [nth,nth_getD d l n];rfl
def noSig  : Sig:=⟨0,.move (.tmp 0),0,none⟩
theorem nth_some {L:List Sig} {i:Nat} {s:Sig} (h:L[i]?=some s):nth noSig L i=s:=by rw [nth_getD,List.getD_eq_getElem?_getD,h];rfl
def look (L:List Sig) (c:Act) (q:Nat):Value:=c.eval (.tmp (nth noSig L q).d)
def EqAt (L:List Sig) (V:List Value) (c:Act):List Nat→Prop
 | []=>True
 | q::r=>look L c q=nth undef V q∧EqAt L V c r
def OpDo (P:Program) (s:Sig) (v:Value) (c:Act) (w:World):Prop :=
 (∀ pos af,(execOp c.eval (s.oper pos af)).run P w=.ok (.value v) w)∨∃ f args,(∀ pos af,(execOp c.eval (s.oper pos af)).run P w=.ok (.enter f args) w)∧Calls P f args w fun e w'=>e=.returned v∧Below w.heap.size w w'
def OpGoal (P:Program) (L:List Sig) (V:List Value) (s:Sig) (v:Value) (c:Act) (w:World):Prop :=
 match s.g with
 | none=>OpDo P s v c w
 | some (g,b)=>look L c g=nth undef V g∧((nth undef V g=.bool b∧OpDo P s v c w)∨((nth undef V g=.bool (!b)∨nth undef V g=undef)∧v=undef))
theorem od_static {d ty:Nat} {f:FuncId} {xs:Array Operand} {ats:Array TypeId} {g:Option (Nat × Bool)} {v:Value} {c:Act} {w:World} {args:Array Value} (hf:∀ (args:Array Value) (w:World),(callFunc f args).run P w=.ok (.enter f args) w) (hc:Calls P f args w fun e w'=>e=.returned v∧Below w.heap.size w w') (ha:xs.map c.eval=args) :
  OpDo P ⟨d,.call { callee:=.value (.func f),args:=xs,argTypes:=ats },ty,g⟩ v c w:=by
 subst ha
 refine .inr ⟨f,_,fun pos af=>?_,hc⟩
 have ef:c.eval (.func f)=.func (.func f) #[] #[]:=rfl
 dsimp only [Sig.oper]
 unfold execOp
 simp [resolve,invoke,ef,Deferred.ofValue,hf]
theorem sig_at {L:List Sig} (hL:sigsOf R=L.map some) {i:Nat} {s:Sig} (hi:L[i]?=some s):∃ pos af,R[i]?=some (s.oper pos af):=by
 have h1:(sigsOf R)[i]?=some (some s):=by rw [hL,List.getElem?_map,hi];rfl
 unfold sigsOf at h1
 rw [List.getElem?_map,Array.getElem?_toList] at h1
 obtain ⟨o,ho,h2⟩:=Option.map_eq_some_iff.1 h1
 obtain ⟨d,op,ty,pos,af,g⟩:=o
 unfold sigOf at h2
 cases d with
 | none=>cases h2
 | some d =>
  simp only [Option.map_some,Option.some.injEq] at h2
  subst h2
  exact ⟨pos,af,ho⟩
theorem sig_size {L:List Sig} (hL:sigsOf R=L.map some):R.size=L.length:=by
 have:=congrArg List.length hL
 simpa [sigsOf] using this
theorem val_look {L:List Sig} (hL:sigsOf R=L.map some) (c:Act) (q:Nat) (hq:q<L.length):val R c q=look L c q:=by
 obtain ⟨s,hs⟩:∃ s,L[q]?=some s:=⟨_,List.getElem?_eq_getElem hq⟩
 obtain ⟨pos,af,h⟩:=sig_at hL hs
 unfold look val slotOf
 rw [h,nth_some hs];rfl
theorem told_rule {base:Act} {w0:World} {id:Nat} (L:List Sig) (A:List (List Nat)) (V:List Value) {T:World→Prop} {B:Act→Prop} {n k d:Nat} {u:Value}
  (hL:sigsOf R=L.map some) (hn:L.length=n) (hA:(A.all fun l=>l.all fun q=>decide (q<n))=true) (hG:(L.all fun s=>match s.g with | none=>true | some (g,_)=>decide (g<n))=true) (hm:P.follows .mixedOrders=true) (hok:factsOk .any R base.tmps.size (fun i=>nth [] A i)=true)
  (hB:∀ c,Same R base c→B c) (hT:∀ w,Below w0.heap.size w0 w→T w)
  (hop:∀ i,i<n→(fun i=>∀ c w,B c→T w→EqAt L V c (nth [] A i)→OpGoal P L V (nth noSig L i) (nth undef V i) c w) i)
  (hk:k<n) (hd:(nth noSig L k).d=d) (hu:nth undef V k=u)
  (hQ:∀ c w,Same R base c→Below w0.heap.size w0 w→c.eval (.tmp d)=u→Q .normal c w):(Code.region id R true).wp P Q base w0:=by
 have hsz:=sig_size hL
 have hAi:∀ i,∀ q ∈ nth [] A i,q<n:=fun i q hq=>by
  rw [nth_getD,List.getD_eq_getElem?_getD] at hq
  cases hi:A[i]? with
  | none=>rw [hi] at hq;simp at hq
  | some l =>
   rw [hi] at hq
   exact of_decide_eq_true (List.all_eq_true.1 (List.all_eq_true.1 hA l (List.mem_of_getElem? hi)) q hq)
 refine facts_rule (A:=fun i=>nth [] A i) (F:=fun i v _=>v=nth undef V i) hm hok (fun i v w w' h _=>h) ?_ ?_
 ·intro i hi c w hS hb hF
  have hE:∀ l:List Nat,(∀ j ∈ l,j<n)→(∀ j ∈ l,val R c j=nth undef V j)→EqAt L V c l:=by
   intro l
   induction l with
   | nil=>intro _ _;trivial
   | cons q r ih=>intro hl h;exact ⟨(val_look hL c q (by have:=hl q List.mem_cons_self;omega)).symm.trans (h q List.mem_cons_self),ih (fun j hj=>hl j (List.mem_cons_of_mem _ hj)) fun j hj=>h j (List.mem_cons_of_mem _ hj)⟩
  have h:=hop i (by omega) c w (hB c hS) (hT w hb) (hE _ (hAi i) hF)
  obtain ⟨s,hs⟩:∃ s,L[i]?=some s:=⟨_,List.getElem?_eq_getElem (by omega)⟩
  obtain ⟨pos,af,ho⟩:=sig_at hL hs
  rw [nth_some hs] at h
  have doit:Region.wanted (s.oper pos af) (yielded R c.tmps)=true→OpDo P s (nth undef V i) c w→Does P R Q (fun i v _=>v=nth undef V i) i c w:=by
   intro hw h
   rcases h with h | ⟨f,args,h1,h2⟩
   ·exact does_value ho hw (h pos af) rfl (Below.refl _ _)
   ·exact does_call ho hw (h1 pos af) (h2.mono fun e w' ⟨e1,e2⟩=>⟨_,e1,rfl,e2⟩)
  dsimp only [OpGoal] at h
  cases hg:s.g with
  | none =>
   rw [hg] at h
   dsimp only at h
   exact doit (want_none hg) h
  | some gb =>
   obtain ⟨g,b⟩:=gb
   have hgn:g<n:=by
    have:=List.all_eq_true.1 hG s (List.mem_of_getElem? hs)
    rw [hg] at this
    exact of_decide_eq_true this
   rw [hg] at h
   dsimp only at h
   obtain ⟨hl,h⟩:=h
   have hv:val R c g=nth undef V g:=(val_look hL c g (by omega)).trans hl
   rcases h with ⟨e,h⟩ | ⟨e | e,hz⟩
   ·exact doit (want_eq (g:=g) (b:=b) hg (hv.trans e)) h
   ·refine does_not ho ?_ hz.symm
    rw [want_val (g:=g) (want:=b) (o:=s.oper pos af) hg (hv.trans e)]
    cases b<;>rfl
   ·refine does_not ho ?_ hz.symm
    rw [want_gv (g:=g) (want:=b) (b:=false) (x:=true) (o:=s.oper pos af) hg (hv.trans e)];rfl
 ·intro c w hS hb hF
  refine hQ c w hS hb ?_
  have h:=hF k (by omega)
  rw [val_look hL c k (by omega)] at h
  unfold look at h
  rw [hd,hu] at h
  exact h
def peek (c:Act) (k:Nat):Value:=c.eval (.tmp k)
theorem same_peek {base c:Act} (h:Same R base c) (ds:List Nat) (hds:slotsIn R ds=true):c=⟨ds.foldl (fun t d=>t.setIfInBounds d (peek c d)) base.tmps,base.defers⟩:=same_put h ds hds
end Go.Proofs.YteddjlbfbpecjaaGreatDoor

namespace Go.Proofs.YteddjlbfbpecjaaGreatDoor
open Go.RowKit
set_option linter.unusedVariables false
variable {P:Program} {R:Array Oper} {Q:Exit→Act→World→Prop}
theorem sig_atT {L:List Sig} (hL:(sigsOf R).take L.length=L.map some) {i:Nat} {s:Sig} (hi:L[i]?=some s):∃ pos af,R[i]?=some (s.oper pos af):=by
 have hl:=(List.getElem?_eq_some_iff.1 hi).1
 have h1:(sigsOf R)[i]?=some (some s):=by
  rw [← List.getElem?_take_of_lt hl,hL,List.getElem?_map,hi];rfl
 unfold sigsOf at h1
 rw [List.getElem?_map,Array.getElem?_toList] at h1
 obtain ⟨o,ho,h2⟩:=Option.map_eq_some_iff.1 h1
 obtain ⟨d,op,ty,pos,af,g⟩:=o
 unfold sigOf at h2
 cases d with
 | none=>cases h2
 | some d =>
  simp only [Option.map_some,Option.some.injEq] at h2
  subst h2
  exact ⟨pos,af,ho⟩
theorem val_lookT {L:List Sig} (hL:(sigsOf R).take L.length=L.map some) (c:Act) (q:Nat) (hq:q<L.length):val R c q=look L c q:=by
 obtain ⟨s,hs⟩:∃ s,L[q]?=some s:=⟨_,List.getElem?_eq_getElem hq⟩
 obtain ⟨pos,af,h⟩:=sig_atT hL hs
 unfold look val slotOf
 rw [h,nth_some hs];rfl
def FactsL (L:List Sig) (fs:List (Value→World→Prop)) (c:Act) (w:World):List Nat→Prop
 | []=>True
 | q::r=>nth (fun _ _=>True) fs q (look L c q) w∧FactsL L fs c w r
theorem factsL_of {L:List Sig} (hL:(sigsOf R).take L.length=L.map some) {fs:List (Value→World→Prop)} {c:Act} {w:World}:∀ {l:List Nat},(∀ q ∈ l,q<L.length)→(∀ q ∈ l,factsAt fs q (val R c q) w)→FactsL L fs c w l
 | [],_,_=>trivial
 | q::r,hl,h=>⟨by
   have:=h q List.mem_cons_self
   rw [val_lookT hL c q (hl q List.mem_cons_self)] at this
   unfold factsAt at this
   rw [nth_getD];exact this,factsL_of hL (fun j hj=>hl j (List.mem_cons_of_mem _ hj)) fun j hj=>h j (List.mem_cons_of_mem _ hj)⟩
theorem does_told {L:List Sig} (hL:(sigsOf R).take L.length=L.map some) {i:Nat} {F:Nat→Value→World→Prop} {v:Value} {c:Act} {w:World} (hi:i<L.length) (hg:(nth noSig L i).g=none) (hF:∀ w',F i v w') (h:OpDo P (nth noSig L i) v c w):Does P R Q F i c w:=by
 obtain ⟨s,hs⟩:∃ s,L[i]?=some s:=⟨_,List.getElem?_eq_getElem hi⟩
 obtain ⟨pos,af,ho⟩:=sig_atT hL hs
 rw [nth_some hs] at h hg
 rcases h with h | ⟨f,args,h1,h2⟩
 ·exact does_value ho (want_none hg) (h pos af) (hF _) (Below.refl _ _)
 ·exact does_call ho (want_none hg) (h1 pos af) (h2.mono fun e w' ⟨e1,e2⟩=>⟨_,e1,hF _,e2⟩)
end Go.Proofs.YteddjlbfbpecjaaGreatDoor

namespace Go.Proofs.YteddjlbfbpecjaaGreatDoor
open Go.RowKit
set_option linter.unusedVariables false
theorem below_alloc {w w':World} {o:Obj} (h:Below (w.alloc o).heap.size (w.alloc o) w'):Below w.heap.size w w' :=
 ((Below.refl _ _).alloc (Nat.le_refl _) o).trans (h.mono (by simp))
theorem below_on {w w1 w2:World} (h:Below w.heap.size w w1) (k:Below w1.heap.size w1 w2):Below w.heap.size w w2:=h.trans (k.mono h.size)
end Go.Proofs.YteddjlbfbpecjaaGreatDoor

