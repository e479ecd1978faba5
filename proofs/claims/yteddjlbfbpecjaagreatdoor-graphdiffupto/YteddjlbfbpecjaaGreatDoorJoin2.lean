import Derived.Test.YteddjlbfbpecjaaGreatDoorJoin1
import Derived.Test.YteddjlbfbpecjaaGreatDoorRows
import Derived.BigQuiet
import Derived.Deep.QuietTactic
import Derived.Laws.Bits128
import Derived.Laws.MathBits
import Derived.Maps.AppendAt
import Derived.WalkLawsBesides
import Derived.WalkMore
import Derived.WalkSmall
import Derived.WalkSpells
namespace Go.Proofs.YteddjlbfbpecjaaGreatDoor
set_option linter.all false
section
open Go.RowKit
variable {P:Program} {R:Array Oper} {Q:Exit->Act->World->Prop}
structure Sig  where
 d:Nat
 op:Op
 ty:TypeId
 g:Option (Nat × Bool)
def Sig.oper (s:Sig) (pos:String) (m:Array Edge):Oper:=⟨some s.d,s.op,s.ty,pos,m,s.g⟩
def Jcx (o:Oper):Option Sig:=o.dst.map fun d=>⟨d,o.op,o.type,o.guard⟩
def Jh (ops:Array Oper):List (Option Sig):=ops.toList.map Jcx
def nth {α:Type} (d:α):List α->Nat->α
 | [],_=>d
 | a::_,0=>a
 | _::l,n+1=>nth d l n
theorem Zhs {α:Type} (d:α):∀ (l:List α) (n:Nat),nth d l n=l.getD n d
 | [],n=>by cases n<;>rfl
 | a::l,0=>rfl
 | a::l,n+1=>by rw [nth,Zhs d l n];rfl
def Zte  : Sig:=⟨0,.move (.tmp 0),0,none⟩
theorem Zht {L:List Sig} {i:Nat} {s:Sig} (h:L[i]?=some s):nth Zte L i=s:=by rw [Zhs,List.getD_eq_getElem?_getD,h];rfl
def Za2 (L:List Sig) (c:Act) (q:Nat):Value:=c.eval (.tmp (nth Zte L q).d)
def Zbm (L:List Sig) (V:List Value) (c:Act):List Nat->Prop
 | []=>True
 | q::r=>Za2 L c q=nth undef V q/\Zbm L V c r
def Jd5 (P:Program) (s:Sig) (v:Value) (c:Act) (w:World):Prop :=
 (∀ pos m,(execOp c.eval (s.oper pos m)).run P w=.ok (.value v) w)\/∃ f args,(∀ pos m,(execOp c.eval (s.oper pos m)).run P w=.ok (.enter f args) w)/\Calls P f args w fun e w'=>e=.returned v/\Below w.heap.size w w'
def Jc (P:Program) (L:List Sig) (V:List Value) (s:Sig) (v:Value) (c:Act) (w:World):Prop :=
 match s.g with
 | none=>Jd5 P s v c w
 | some (g,b)=>Za2 L c g=nth undef V g/\((nth undef V g=.bool b/\Jd5 P s v c w)\/((nth undef V g=.bool (!b)\/nth undef V g=undef)/\v=undef))
theorem Zk {d ty:Nat} {f:FuncId} {xs:Array Operand} {O:Array TypeId} {g:Option (Nat × Bool)} {v:Value} {c:Act} {w:World} {args:Array Value} (hf:∀ (args:Array Value) (w:World),(callFunc f args).run P w=.ok (.enter f args) w) (hc:Calls P f args w fun e w'=>e=.returned v/\Below w.heap.size w w') (ha:xs.map c.eval=args) :
  Jd5 P ⟨d,.call { callee:=.value (.func f),args:=xs,argTypes:=O },ty,g⟩ v c w:=by
 subst ha
 refine .inr ⟨f,_,fun pos m=>?_,hc⟩
 have ef:c.eval (.func f)=.func (.func f) #[] #[]:=rfl
 dsimp only [Sig.oper]
 unfold execOp
 simp [resolve,invoke,ef,Deferred.ofValue,hf]
theorem Jbz {L:List Sig} (p:Jh R=L.map some) {i:Nat} {s:Sig} (E:L[i]?=some s):∃ pos m,R[i]?=some (s.oper pos m):=by
 have h1:(Jh R)[i]?=some (some s):=by rw [p,List.getElem?_map,E];rfl
 unfold Jh at h1
 rw [List.getElem?_map,Array.getElem?_toList] at h1
 obtain ⟨o,D,h2⟩:=Option.map_eq_some_iff.1 h1
 obtain ⟨d,op,ty,pos,m,g⟩:=o
 unfold Jcx at h2
 cases d with
 | none=>cases h2
 | some d =>
  simp only [Option.map_some,Option.some.injEq] at h2
  subst h2
  exact ⟨pos,m,D⟩
theorem Zzx {L:List Sig} (p:Jh R=L.map some):R.size=L.length:=by
 have:=congrArg List.length p
 simpa [Jh] using this
theorem Zlv {L:List Sig} (p:Jh R=L.map some) (c:Act) (q:Nat) (z:q<L.length):val R c q=Za2 L c q:=by
 obtain ⟨s,C⟩:∃ s,L[q]?=some s:=⟨_,List.getElem?_eq_getElem z⟩
 obtain ⟨pos,m,h⟩:=Jbz p C
 unfold Za2 val Zv
 rw [h,Zht C];rfl
theorem Zn {base:Act} {G:World} {id:Nat} (L:List Sig) (A:List (List Nat)) (V:List Value) {T:World->Prop} {B:Act->Prop} {n k d:Nat} {u:Value}
  (p:Jh R=L.map some) (hn:L.length=n) (hA:(A.all fun l=>l.all fun q=>decide (q<n))=true) (hG:(L.all fun s=>match s.g with | none=>true | some (g,_)=>decide (g<n))=true) (hm:P.follows .mixedOrders=true) (M:Zmp .any R base.tmps.size (fun i=>nth [] A i)=true)
  (hB:∀ c,Zaf R base c->B c) (hT:∀ w,Below G.heap.size G w->T w)
  (N:∀ i,i<n->(fun i=>∀ c w,B c->T w->Zbm L V c (nth [] A i)->Jc P L V (nth Zte L i) (nth undef V i) c w) i)
  (hk:k<n) (hd:(nth Zte L k).d=d) (hu:nth undef V k=u)
  (hQ:∀ c w,Zaf R base c->Below G.heap.size G w->c.eval (.tmp d)=u->Q .normal c w):(Code.region id R true).wp P Q base G:=by
 have a1:=Zzx p
 have S:∀ i,∀ q ∈ nth [] A i,q<n:=fun i q z=>by
  rw [Zhs,List.getD_eq_getElem?_getD] at z
  cases E:A[i]? with
  | none=>rw [E] at z;simp at z
  | some l =>
   rw [E] at z
   exact of_decide_eq_true (List.all_eq_true.1 (List.all_eq_true.1 hA l (List.mem_of_getElem? E)) q z)
 refine Zk9 (A:=fun i=>nth [] A i) (F:=fun i v _=>v=nth undef V i) hm M (fun i v w w' h _=>h) ?_ ?_
 ·intro i E c w U K hF
  have hE:∀ l:List Nat,(∀ j ∈ l,j<n)->(∀ j ∈ l,val R c j=nth undef V j)->Zbm L V c l:=by
   intro l
   induction l with
   | nil=>intro _ _;trivial
   | cons q r ih=>intro H h;exact ⟨(Zlv p c q (by have:=H q List.mem_cons_self;omega)).symm.trans (h q List.mem_cons_self),ih (fun j X=>H j (List.mem_cons_of_mem _ X)) fun j X=>h j (List.mem_cons_of_mem _ X)⟩
  have h:=N i (by omega) c w (hB c U) (hT w K) (hE _ (S i) hF)
  obtain ⟨s,C⟩:∃ s,L[i]?=some s:=⟨_,List.getElem?_eq_getElem (by omega)⟩
  obtain ⟨pos,m,D⟩:=Jbz p C
  rw [Zht C] at h
  have y:Region.wanted (s.oper pos m) (yielded R c.tmps)=true->Jd5 P s (nth undef V i) c w->Zbp P R Q (fun i v _=>v=nth undef V i) i c w:=by
   intro hw h
   rcases h with h | ⟨f,args,h1,h2⟩
   ·exact Ze D hw (h pos m) rfl (Below.refl _ _)
   ·exact Zc2 D hw (h1 pos m) (h2.mono fun e w' ⟨e1,e2⟩=>⟨_,e1,rfl,e2⟩)
  dsimp only [Jc] at h
  cases hg:s.g with
  | none =>
   rw [hg] at h
   dsimp only at h
   exact y (Zz hg) h
  | some gb =>
   obtain ⟨g,b⟩:=gb
   have a0:g<n:=by
    have:=List.all_eq_true.1 hG s (List.mem_of_getElem? C)
    rw [hg] at this
    exact of_decide_eq_true this
   rw [hg] at h
   dsimp only at h
   obtain ⟨H,h⟩:=h
   have I:val R c g=nth undef V g:=(Zlv p c g (by omega)).trans H
   rcases h with ⟨e,h⟩ | ⟨e | e,hz⟩
   ·exact y (Jd1 (g:=g) (b:=b) hg (I.trans e)) h
   ·refine Zq D ?_ hz.symm
    rw [Zms (g:=g) (want:=b) (o:=s.oper pos m) hg (I.trans e)]
    cases b<;>rfl
   ·refine Zq D ?_ hz.symm
    rw [Zy5 (g:=g) (want:=b) (b:=false) (x:=true) (o:=s.oper pos m) hg (I.trans e)];rfl
 ·intro c w U K hF
  refine hQ c w U K ?_
  have h:=hF k (by omega)
  rw [Zlv p c k (by omega)] at h
  unfold Za2 at h
  rw [hd,hu] at h
  exact h
def Zbd (c:Act) (k:Nat):Value:=c.eval (.tmp k)
theorem Zj {base c:Act} (h:Zaf R base c) (W:List Nat) (Y:Zyq R W=true):c=⟨W.foldl (fun t d=>t.setIfInBounds d (Zbd c d)) base.tmps,base.defers⟩:=Zba h W Y
end
section
open Go.RowKit
variable {P:Program} {R:Array Oper} {Q:Exit->Act->World->Prop}
theorem Zut {L:List Sig} (a:(Jh R).take L.length=L.map some) {i:Nat} {s:Sig} (p:L[i]?=some s):∃ pos b,R[i]?=some (s.oper pos b):=by
 have n:=(List.getElem?_eq_some_iff.1 p).1
 have h1:(Jh R)[i]?=some (some s):=by
  rw [<- List.getElem?_take_of_lt n,a,List.getElem?_map,p];rfl
 unfold Jh at h1
 rw [List.getElem?_map,Array.getElem?_toList] at h1
 obtain ⟨o,t,h2⟩:=Option.map_eq_some_iff.1 h1
 obtain ⟨d,op,ty,pos,b,g⟩:=o
 unfold Jcx at h2
 cases d with
 | none=>cases h2
 | some d =>
  simp only [Option.map_some,Option.some.injEq] at h2
  subst h2
  exact ⟨pos,b,t⟩
theorem Zuu {L:List Sig} (a:(Jh R).take L.length=L.map some) (c:Act) (q:Nat) (z:q<L.length):val R c q=Za2 L c q:=by
 obtain ⟨s,k⟩:∃ s,L[q]?=some s:=⟨_,List.getElem?_eq_getElem z⟩
 obtain ⟨pos,b,h⟩:=Zut a k
 unfold Za2 val Zv
 rw [h,Zht k];rfl
def Zdj (L:List Sig) (m:List (Value->World->Prop)) (c:Act) (w:World):List Nat->Prop
 | []=>True
 | q::r=>nth (fun _ _=>True) m q (Za2 L c q) w/\Zdj L m c w r
theorem Za5 {L:List Sig} (a:(Jh R).take L.length=L.map some) {m:List (Value->World->Prop)} {c:Act} {w:World}:∀ {l:List Nat},(∀ q ∈ l,q<L.length)->(∀ q ∈ l,Zg m q (val R c q) w)->Zdj L m c w l
 | [],_,_=>trivial
 | q::r,n,h=>⟨by
   have:=h q List.mem_cons_self
   rw [Zuu a c q (n q List.mem_cons_self)] at this
   unfold Zg at this
   rw [Zhs];exact this,Za5 a (fun j x=>n j (List.mem_cons_of_mem _ x)) fun j x=>h j (List.mem_cons_of_mem _ x)⟩
theorem Zbb {L:List Sig} (a:(Jh R).take L.length=L.map some) {i:Nat} {F:Nat->Value->World->Prop} {v:Value} {c:Act} {w:World} (p:i<L.length) (u:(nth Zte L i).g=none) (y:∀ w',F i v w') (h:Jd5 P (nth Zte L i) v c w):Zbp P R Q F i c w:=by
 obtain ⟨s,k⟩:∃ s,L[i]?=some s:=⟨_,List.getElem?_eq_getElem p⟩
 obtain ⟨pos,b,t⟩:=Zut a k
 rw [Zht k] at h u
 rcases h with h | ⟨f,args,h1,h2⟩
 ·exact Ze t (Zz u) (h pos b) (y _) (Below.refl _ _)
 ·exact Zc2 t (Zz u) (h1 pos b) (h2.mono fun e w' ⟨e1,e2⟩=>⟨_,e1,y _,e2⟩)
end
section
open Go.RowKit
theorem Zfe {w w':World} {o:Obj} (h:Below (w.alloc o).heap.size (w.alloc o) w'):Below w.heap.size w w' :=
 ((Below.refl _ _).alloc (Nat.le_refl _) o).trans (h.mono (by simp))
theorem Za {w w1 a:World} (h:Below w.heap.size w w1) (k:Below w1.heap.size w1 a):Below w.heap.size w a:=h.trans (k.mono h.size)
end
