/- Regions that only read and call, whatever order they draw: the values that their operations leave are told once. -/
import Derived.Test.YteddjlbfbpecjaaGreatDoorJoin1
import Derived.Test.YteddjlbfbpecjaaGreatDoorRows
import Derived.BigQuiet
import Derived.Deep.QuietTactic
import Derived.Laws.Bits128
import Derived.Laws.MathBits
import Derived.Maps.AppendAt
import Derived.WalkKit
import Derived.WalkLawsBesides
import Derived.WalkMore
import Derived.WalkSmall
import Derived.WalkSpells
namespace Go.Proofs.YteddjlbfbpecjaaGreatDoor
section
open Go.RowKit
set_option linter.all false
variable {P:Program} {R:Array Oper} {Q:Exit→Act→World→Prop}
structure Sig  where
 d:Nat
 op:Op
 ty:TypeId
 g:Option (Nat × Bool)
def Sig.oper (s:Sig) (pos:String) (af:Array Edge):Oper:=⟨some s.d,s.op,s.ty,pos,af,s.g⟩
def Zz5 (o:Oper):Option Sig:=o.dst.map fun d=>⟨d,o.op,o.type,o.guard⟩
def Jq (ops:Array Oper):List (Option Sig):=ops.toList.map Zz5
def nth {α:Type} (d:α):List α→Nat→α
 | [],_=>d
 | a::_,0=>a
 | _::l,n+1=>nth d l n
theorem Zg8 {α:Type} (d:α):∀ (l:List α) (n:Nat),nth d l n=l.getD n d
 | [],n=>by cases n<;>rfl
 | a::l,0=>rfl
 | a::l,n+1=>by rw [nth,Zg8 d l n];rfl
def Zqz  : Sig:=⟨0,.move (.tmp 0),0,none⟩
theorem Zg9 {L:List Sig} {i:Nat} {s:Sig} (h:L[i]?=some s):nth Zqz L i=s:=by rw [Zg8,List.getD_eq_getElem?_getD,h];rfl
def Zbd (L:List Sig) (c:Act) (q:Nat):Value:=c.eval (.tmp (nth Zqz L q).d)
def Zcm (L:List Sig) (V:List Value) (c:Act):List Nat→Prop
 | []=>True
 | q::r=>Zbd L c q=nth undef V q∧Zcm L V c r
def Jb7 (P:Program) (s:Sig) (v:Value) (c:Act) (w:World):Prop :=
 (∀ pos af,(execOp c.eval (s.oper pos af)).run P w=.ok (.value v) w)∨∃ f args,(∀ pos af,(execOp c.eval (s.oper pos af)).run P w=.ok (.enter f args) w)∧Calls P f args w fun e w'=>e=.returned v∧Below w.heap.size w w'
def Jl (P:Program) (L:List Sig) (V:List Value) (s:Sig) (v:Value) (c:Act) (w:World):Prop :=
 match s.g with
 | none=>Jb7 P s v c w
 | some (g,b)=>Zbd L c g=nth undef V g∧((nth undef V g=.bool b∧Jb7 P s v c w)∨((nth undef V g=.bool (!b)∨nth undef V g=undef)∧v=undef))
theorem Zm {d ty:Nat} {f:FuncId} {xs:Array Operand} {ats:Array TypeId} {g:Option (Nat × Bool)} {v:Value} {c:Act} {w:World} {args:Array Value} (hf:∀ (args:Array Value) (w:World),(callFunc f args).run P w=.ok (.enter f args) w) (hc:Calls P f args w fun e w'=>e=.returned v∧Below w.heap.size w w') (ha:xs.map c.eval=args) :
  Jb7 P ⟨d,.call { callee:=.value (.func f),args:=xs,argTypes:=ats },ty,g⟩ v c w:=by
 subst ha
 refine .inr ⟨f,_,fun pos af=>?_,hc⟩
 have ef:c.eval (.func f)=.func (.func f) #[] #[]:=rfl
 dsimp only [Sig.oper]
 unfold execOp
 simp [resolve,invoke,ef,Deferred.ofValue,hf]
theorem Zyy {L:List Sig} (hL:Jq R=L.map some) {i:Nat} {s:Sig} (hi:L[i]?=some s):∃ pos af,R[i]?=some (s.oper pos af):=by
 have h1:(Jq R)[i]?=some (some s):=by rw [hL,List.getElem?_map,hi];rfl
 unfold Jq at h1
 rw [List.getElem?_map,Array.getElem?_toList] at h1
 obtain ⟨o,ho,h2⟩:=Option.map_eq_some_iff.1 h1
 obtain ⟨d,op,ty,pos,af,g⟩:=o
 unfold Zz5 at h2
 cases d with
 | none=>cases h2
 | some d =>
  simp only [Option.map_some,Option.some.injEq] at h2
  subst h2
  exact ⟨pos,af,ho⟩
theorem Zw3 {L:List Sig} (hL:Jq R=L.map some):R.size=L.length:=by
 have:=congrArg List.length hL
 simpa [Jq] using this
theorem Zkh {L:List Sig} (hL:Jq R=L.map some) (c:Act) (q:Nat) (hq:q<L.length):val R c q=Zbd L c q:=by
 obtain ⟨s,hs⟩:∃ s,L[q]?=some s:=⟨_,List.getElem?_eq_getElem hq⟩
 obtain ⟨pos,af,h⟩:=Zyy hL hs
 unfold Zbd val Zu
 rw [h,Zg9 hs];rfl
theorem Zr {base:Act} {w0:World} {id:Nat} (L:List Sig) (A:List (List Nat)) (V:List Value) {T:World→Prop} {B:Act→Prop} {n k d:Nat} {u:Value}
  (hL:Jq R=L.map some) (hn:L.length=n) (hA:(A.all fun l=>l.all fun q=>decide (q<n))=true) (hG:(L.all fun s=>match s.g with | none=>true | some (g,_)=>decide (g<n))=true) (hm:P.follows .mixedOrders=true) (hok:Zk5 .any R base.tmps.size (fun i=>nth [] A i)=true)
  (hB:∀ c,Zae R base c→B c) (hT:∀ w,Below w0.heap.size w0 w→T w)
  (hop:∀ i,i<n→(fun i=>∀ c w,B c→T w→Zcm L V c (nth [] A i)→Jl P L V (nth Zqz L i) (nth undef V i) c w) i)
  (hk:k<n) (hd:(nth Zqz L k).d=d) (hu:nth undef V k=u)
  (hQ:∀ c w,Zae R base c→Below w0.heap.size w0 w→c.eval (.tmp d)=u→Q .normal c w):(Code.region id R true).wp P Q base w0:=by
 have hsz:=Zw3 hL
 have hAi:∀ i,∀ q ∈ nth [] A i,q<n:=fun i q hq=>by
  rw [Zg8,List.getD_eq_getElem?_getD] at hq
  cases hi:A[i]? with
  | none=>rw [hi] at hq;simp at hq
  | some l =>
   rw [hi] at hq
   exact of_decide_eq_true (List.all_eq_true.1 (List.all_eq_true.1 hA l (List.mem_of_getElem? hi)) q hq)
 refine Zgq (A:=fun i=>nth [] A i) (F:=fun i v _=>v=nth undef V i) hm hok (fun i v w w' h _=>h) ?_ ?_
 ·intro i hi c w hS hb hF
  have hE:∀ l:List Nat,(∀ j ∈ l,j<n)→(∀ j ∈ l,val R c j=nth undef V j)→Zcm L V c l:=by
   intro l
   induction l with
   | nil=>intro _ _;trivial
   | cons q r ih=>intro hl h;exact ⟨(Zkh hL c q (by have:=hl q List.mem_cons_self;omega)).symm.trans (h q List.mem_cons_self),ih (fun j hj=>hl j (List.mem_cons_of_mem _ hj)) fun j hj=>h j (List.mem_cons_of_mem _ hj)⟩
  have h:=hop i (by omega) c w (hB c hS) (hT w hb) (hE _ (hAi i) hF)
  obtain ⟨s,hs⟩:∃ s,L[i]?=some s:=⟨_,List.getElem?_eq_getElem (by omega)⟩
  obtain ⟨pos,af,ho⟩:=Zyy hL hs
  rw [Zg9 hs] at h
  have doit:Region.wanted (s.oper pos af) (yielded R c.tmps)=true→Jb7 P s (nth undef V i) c w→Zak P R Q (fun i v _=>v=nth undef V i) i c w:=by
   intro hw h
   rcases h with h | ⟨f,args,h1,h2⟩
   ·exact Ze ho hw (h pos af) rfl (Below.refl _ _)
   ·exact Zcd ho hw (h1 pos af) (h2.mono fun e w' ⟨e1,e2⟩=>⟨_,e1,rfl,e2⟩)
  dsimp only [Jl] at h
  cases hg:s.g with
  | none =>
   rw [hg] at h
   dsimp only at h
   exact doit (Zn hg) h
  | some gb =>
   obtain ⟨g,b⟩:=gb
   have hgn:g<n:=by
    have:=List.all_eq_true.1 hG s (List.mem_of_getElem? hs)
    rw [hg] at this
    exact of_decide_eq_true this
   rw [hg] at h
   dsimp only at h
   obtain ⟨hl,h⟩:=h
   have hv:val R c g=nth undef V g:=(Zkh hL c g (by omega)).trans hl
   rcases h with ⟨e,h⟩ | ⟨e | e,hz⟩
   ·exact doit (Ja9 (g:=g) (b:=b) hg (hv.trans e)) h
   ·refine Zo ho ?_ hz.symm
    rw [Zk8 (g:=g) (want:=b) (o:=s.oper pos af) hg (hv.trans e)]
    cases b<;>rfl
   ·refine Zo ho ?_ hz.symm
    rw [Zv1 (g:=g) (want:=b) (b:=false) (x:=true) (o:=s.oper pos af) hg (hv.trans e)];rfl
 ·intro c w hS hb hF
  refine hQ c w hS hb ?_
  have h:=hF k (by omega)
  rw [Zkh hL c k (by omega)] at h
  unfold Zbd at h
  rw [hd,hu] at h
  exact h
def Zcs (c:Act) (k:Nat):Value:=c.eval (.tmp k)
theorem Zs {base c:Act} (h:Zae R base c) (ds:List Nat) (hds:Zvk R ds=true):c=⟨ds.foldl (fun t d=>t.setIfInBounds d (Zcs c d)) base.tmps,base.defers⟩:=Zao h ds hds
end
section
open Go.RowKit
set_option linter.all false
variable {P:Program} {R:Array Oper} {Q:Exit→Act→World→Prop}
theorem Zr1 {L:List Sig} (hL:(Jq R).take L.length=L.map some) {i:Nat} {s:Sig} (hi:L[i]?=some s):∃ pos af,R[i]?=some (s.oper pos af):=by
 have hl:=(List.getElem?_eq_some_iff.1 hi).1
 have h1:(Jq R)[i]?=some (some s):=by
  rw [← List.getElem?_take_of_lt hl,hL,List.getElem?_map,hi];rfl
 unfold Jq at h1
 rw [List.getElem?_map,Array.getElem?_toList] at h1
 obtain ⟨o,ho,h2⟩:=Option.map_eq_some_iff.1 h1
 obtain ⟨d,op,ty,pos,af,g⟩:=o
 unfold Zz5 at h2
 cases d with
 | none=>cases h2
 | some d =>
  simp only [Option.map_some,Option.some.injEq] at h2
  subst h2
  exact ⟨pos,af,ho⟩
theorem Zr2 {L:List Sig} (hL:(Jq R).take L.length=L.map some) (c:Act) (q:Nat) (hq:q<L.length):val R c q=Zbd L c q:=by
 obtain ⟨s,hs⟩:∃ s,L[q]?=some s:=⟨_,List.getElem?_eq_getElem hq⟩
 obtain ⟨pos,af,h⟩:=Zr1 hL hs
 unfold Zbd val Zu
 rw [h,Zg9 hs];rfl
def Zcp (L:List Sig) (fs:List (Value→World→Prop)) (c:Act) (w:World):List Nat→Prop
 | []=>True
 | q::r=>nth (fun _ _=>True) fs q (Zbd L c q) w∧Zcp L fs c w r
theorem Zag {L:List Sig} (hL:(Jq R).take L.length=L.map some) {fs:List (Value→World→Prop)} {c:Act} {w:World}:∀ {l:List Nat},(∀ q ∈ l,q<L.length)→(∀ q ∈ l,Zf fs q (val R c q) w)→Zcp L fs c w l
 | [],_,_=>trivial
 | q::r,hl,h=>⟨by
   have:=h q List.mem_cons_self
   rw [Zr2 hL c q (hl q List.mem_cons_self)] at this
   unfold Zf at this
   rw [Zg8];exact this,Zag hL (fun j hj=>hl j (List.mem_cons_of_mem _ hj)) fun j hj=>h j (List.mem_cons_of_mem _ hj)⟩
theorem Zar {L:List Sig} (hL:(Jq R).take L.length=L.map some) {i:Nat} {F:Nat→Value→World→Prop} {v:Value} {c:Act} {w:World} (hi:i<L.length) (hg:(nth Zqz L i).g=none) (hF:∀ w',F i v w') (h:Jb7 P (nth Zqz L i) v c w):Zak P R Q F i c w:=by
 obtain ⟨s,hs⟩:∃ s,L[i]?=some s:=⟨_,List.getElem?_eq_getElem hi⟩
 obtain ⟨pos,af,ho⟩:=Zr1 hL hs
 rw [Zg9 hs] at h hg
 rcases h with h | ⟨f,args,h1,h2⟩
 ·exact Ze ho (Zn hg) (h pos af) (hF _) (Below.refl _ _)
 ·exact Zcd ho (Zn hg) (h1 pos af) (h2.mono fun e w' ⟨e1,e2⟩=>⟨_,e1,hF _,e2⟩)
end
section
open Go.RowKit
set_option linter.all false
theorem Ze3 {w w':World} {o:Obj} (h:Below (w.alloc o).heap.size (w.alloc o) w'):Below w.heap.size w w' :=
 ((Below.refl _ _).alloc (Nat.le_refl _) o).trans (h.mono (by simp))
theorem Za {w w1 w2:World} (h:Below w.heap.size w w1) (k:Below w1.heap.size w1 w2):Below w.heap.size w w2:=h.trans (k.mono h.size)
end
