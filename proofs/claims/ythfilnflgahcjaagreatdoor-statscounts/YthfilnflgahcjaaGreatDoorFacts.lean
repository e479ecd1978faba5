/- Whatever order a region draws: an invariant that each operation keeps. Facts about each operation's value, kept by whatever comes after it. -/
import Derived.Orders
import Derived.WalkKit
import Derived.Below
namespace Go.Proofs.YthfilnflgahcjaaGreatDoor
open Go.RowKit
set_option linter.all false
section
variable {P:Program} {ops:Array Oper} {Q:Exit->Act->World->Prop} {md:Region.Mode}
def left (m:Array Bool):Nat:=m.toList.countP (fun b=>!b)
theorem Zs5 {m:Array Bool} {i:Nat} (h:m.getD i true=false):left (m.setIfInBounds i true)+1=left m:=by
 have q:i<m.size:=by
  rcases Nat.lt_or_ge i m.size with H | H
  ·exact H
  ·simp [Array.getD,Nat.not_lt.2 H] at h
 have O:m.toList[i]'(by simpa using q)=false:=by
  simpa [Array.getD,q] using h
 unfold left
 rw [Array.toList_setIfInBounds,List.countP_set (by simpa using q)]
 have hp:0<List.countP (fun b=>!b) m.toList:=List.countP_pos_iff.2 ⟨_,List.getElem_mem (by simpa using q),by simp [O]⟩
 rw [O]
 simp only [Bool.not_false,Bool.not_true,if_true,Bool.false_eq_true,if_false]
 omega
theorem Zo8 {m:Array Bool} (h:left m=0) (i:Nat):m.getD i true=true:=by
 rcases Nat.lt_or_ge i m.size with H | H
 ·have:=List.countP_eq_zero.1 h (m[i]) (by simp)
  simp [Array.getD,H]
  simpa using this
 ·simp [Array.getD,Nat.not_lt.2 H]
theorem Zns (n:Nat):left (Array.replicate n false)=n:=by
 unfold left
 rw [Array.toList_replicate]
 induction n with
 | zero=>rfl
 | succ n ih=>rw [List.replicate_succ,List.countP_cons,ih];simp
theorem Zo9 (Inv:Array Bool->Act->World->Prop)
  (a2:∀ m a w i,Inv m a w->i ∈ Region.ready md ops m->wpOp P ops Q i (fun U w'=>Inv (m.setIfInBounds i true) U w') a w)
  (z:∀ m a w,Inv m a w->Region.ready md ops m=[]->Q .normal a w) :
  ∀ fuel m a w,left m<=fuel->Inv m a w->wpAny P md ops Q fuel m a w:=by
 intro fuel
 induction fuel with
 | zero =>
  intro m a w hl hI
  have hr:Region.ready md ops m=[]:=by
   rw [List.eq_nil_iff_forall_not_mem]
   intro i q
   have D:=(mem_ready.1 q).1
   rw [Zo8 (by omega) i] at D
   cases D
  exact ⟨hr,z _ _ _ hI hr⟩
 | succ fuel ih =>
  intro m a w hl hI
  refine ⟨z _ _ _ hI,fun i q=>wpOp_mono (fun U w' h=>ih _ _ _ ?_ h) (a2 _ _ _ i hI q)⟩
  have:=Zs5 (mem_ready.1 q).1
  omega
def Zo (ops:Array Oper) (i:Nat):Option Tmp:=(ops[i]?).bind (·.dst)
def val (ops:Array Oper) (a:Act) (i:Nat):Value:=match Zo ops i with | some d=>a.eval (.tmp d) | none=>undef
def Znt (md:Region.Mode) (ops:Array Oper) (n:Nat) (A:Nat->List Nat):Bool :=
 (List.range ops.size).all fun i =>
  match ops[i]? with
  | none=>false
  | some o =>
   (o.after.all fun e=>!Region.binds md e||decide (e.on<i)) &&
   (match o.dst with
    | none=>false
    | some d=>decide (d<n)&&(List.range i).all fun j=>Zo ops j != some d) &&
   (A i).all fun j=>o.after.any fun e=>Region.binds md e&&(e.on==j||(A e.on).contains j)
def Zl2 (ops:Array Oper) (base a:Act):Prop :=
 a.defers=base.defers/\a.tmps.size=base.tmps.size/\∀ k,(∀ i,i<ops.size->Zo ops i≠some k)->a.tmps[k]?=base.tmps[k]?
def Zwm (P:Program) (ops:Array Oper) (Q:Exit->Act->World->Prop) (F:Nat->Value->World->Prop) (i:Nat) (a:Act) (w:World):Prop :=
 wpOp P ops Q i (fun U w'=>∃ v,U=a.put (Zo ops i) v/\F i v w'/\Below w.heap.size w w') a w
def Inv (ops:Array Oper) (A:Nat->List Nat) (F:Nat->Value->World->Prop) (base:Act) (w0:World) (m:Array Bool) (a:Act) (w:World):Prop :=
 m.size=ops.size/\Zl2 ops base a/\Below w0.heap.size w0 w /\
 ∀ i,m.getD i false=true->F i (val ops a i) w/\∀ j ∈ A i,m.getD j false=true
def Znu (ops:Array Oper) (n:Nat) (A:Nat->List Nat):Prop :=
 ∀ i,i<ops.size->∃ o d,ops[i]?=some o/\o.dst=some d/\Zo ops i=some d/\d<n/\(∀ e ∈ o.after,Region.binds .any e=true->e.on<i) /\
   (∀ j,j<i->Zo ops j≠some d)/\(∀ j ∈ A i,∃ e ∈ o.after,Region.binds .any e=true/\(e.on=j\/j ∈ A e.on))
theorem Zmi {n:Nat} {A:Nat->List Nat} (a0:Znt .any ops n A=true):Znu ops n A:=by
 intro i q
 have h:=List.all_eq_true.1 a0 i (List.mem_range.2 q)
 have a3:ops[i]?=some ops[i]:=by simp [q]
 rw [a3] at h
 simp only [Bool.and_eq_true] at h
 obtain ⟨⟨D,C⟩,h3⟩:=h
 cases R:ops[i].dst with
 | none=>rw [R] at C;cases C
 | some d =>
  rw [R] at C
  simp only [Bool.and_eq_true,decide_eq_true_eq] at C
  refine ⟨_,d,a3,R,by simp [Zo,a3,R],C.1,?_,?_,?_⟩
  ·intro e he hb
   have:=Array.all_eq_true_iff_forall_mem.1 D e he
   simpa [hb] using this
  ·intro j B
   have:=List.all_eq_true.1 C.2 j (List.mem_range.2 B)
   simpa using this
  ·intro j B
   have:=List.all_eq_true.1 h3 j B
   obtain ⟨k,hk,h⟩:=Array.any_eq_true.1 this
   simp only [Bool.and_eq_true,Bool.or_eq_true,beq_iff_eq,List.contains_iff_mem] at h
   exact ⟨_,Array.getElem_mem hk,h.1,h.2⟩
theorem Znv {n:Nat} {A:Nat->List Nat} (s:Znu ops n A):∀ i j,i<ops.size->j<ops.size->i≠j->Zo ops i≠Zo ops j:=by
 intro i j q B Y
 obtain ⟨o,d,_,_,E,_,_,hb,_⟩:=s i q
 obtain ⟨o',d',_,_,N,_,_,b0,_⟩:=s j B
 rw [E,N]
 intro h
 rcases Nat.lt_or_gt_of_ne Y with H | H
 ·exact b0 i H (by rw [E,h])
 ·exact hb j H (by rw [N,h])
theorem Zs6 {A:Nat->List Nat} {F:Nat->Value->World->Prop} {base:Act} {w0:World} (s:Znu ops base.tmps.size A)
  (u:∀ i v w w',F i v w->Below w.heap.size w w'->F i v w')
  (L:∀ i,i<ops.size->∀ a w,Zl2 ops base a->Below w0.heap.size w0 w->(∀ j ∈ A i,F j (val ops a j) w)->Zwm P ops Q F i a w) :
  ∀ m a w i,Inv ops A F base w0 m a w->i ∈ Region.ready .any ops m->wpOp P ops Q i (fun U w'=>Inv ops A F base w0 (m.setIfInBounds i true) U w') a w:=by
 have X:=Znv s
 rintro m a w i ⟨K,hS,hB,S⟩ hr
 obtain ⟨b5,o',T,V⟩:=mem_ready.1 hr
 have q:i<ops.size:=by
  rcases Nat.lt_or_ge i ops.size with h | h
  ·exact h
  ·rw [Array.getElem?_eq_none h] at T;cases T
 obtain ⟨o,d,I,R,E,a7,_,_,hA⟩:=s i q
 have:o'=o:=by rw [I] at T;exact (Option.some.inj T).symm
 subst this
 have a5:∀ j ∈ A i,m.getD j false=true:=by
  intro j B
  obtain ⟨e,he,hb,a9⟩:=hA j B
  have hl:=V e he hb
  rcases a9 with rfl | h
  ·exact hl
  ·exact (S _ hl).2 j h
 refine wpOp_mono ?_ (L i q a w hS hB fun j B=>(S j (a5 j B)).1)
 rintro U w' ⟨v,rfl,b1,hb⟩
 have W:∀ k,k≠d->(a.put (Zo ops i) v).tmps[k]?=a.tmps[k]?:=by
  intro k hk
  simp [E,Act.put,Array.getElem?_setIfInBounds_ne (Ne.symm hk)]
 refine ⟨by simp [K],⟨by simp [E,Act.put];exact hS.1,by simp [E,Act.put];exact hS.2.1,fun k hk=>?_⟩,hB.trans (hb.mono hB.size),fun j B=>?_⟩
 ·rw [W k (fun h=>hk i q (by rw [E,h]))];exact hS.2.2 k hk
 ·by_cases hji:j=i
  ·subst hji
   have O:val ops (a.put (Zo ops j) v) j=v:=by
    simp [val,E,Act.put,Act.eval,Array.getD_eq_getD_getElem?,show d<a.tmps.size by rw [hS.2.1];exact a7]
   refine ⟨by rw [O];exact b1,fun k hk=>?_⟩
   have:=a5 k hk
   by_cases hkj:j=k
   ·subst hkj;simp [Array.getD_eq_getD_getElem?,K,q]
   ·simpa [Array.getD_eq_getD_getElem?,Array.getElem?_setIfInBounds_ne hkj] using this
  ·have a1:m.getD j false=true:=by
    simpa [Array.getD_eq_getD_getElem?,Array.getElem?_setIfInBounds_ne (Ne.symm hji)] using B
   have a6:j<ops.size:=by
    rcases Nat.lt_or_ge j ops.size with h | h
    ·exact h
    ·simp [Array.getD,K,Nat.not_lt.2 h] at a1
   have O:val ops (a.put (Zo ops i) v) j=val ops a j:=by
    obtain ⟨_,d',_,_,N,_⟩:=s j a6
    have Y:d'≠d:=fun h=>X j i a6 q hji (by rw [N,E,h])
    simp [val,N,Act.eval,Array.getD_eq_getD_getElem?,W d' Y]
   refine ⟨by rw [O];exact u _ _ _ _ (S j a1).1 hb,fun k hk=>?_⟩
   have:=(S j a1).2 k hk
   by_cases G:i=k
   ·subst G;simp [Array.getD_eq_getD_getElem?,K,q]
   ·simpa [Array.getD_eq_getD_getElem?,Array.getElem?_setIfInBounds_ne G] using this
theorem Zpa {A:Nat->List Nat} {F:Nat->Value->World->Prop} {base:Act} {w0 w:World} (hB:Below w0.heap.size w0 w):Inv ops A F base w0 (Array.replicate ops.size false) base w:=by
 refine ⟨by simp,⟨rfl,rfl,fun _ _=>rfl⟩,hB,?_⟩
 intro i q
 rcases Nat.lt_or_ge i ops.size with h | h
 ·simp [Array.getD,h] at q
 ·simp [Array.getD,Nat.not_lt.2 h] at q
theorem Zwn {A:Nat->List Nat} {F:Nat->Value->World->Prop} {base:Act} {w0:World} (s:Znu ops base.tmps.size A)
  (u:∀ i v w w',F i v w->Below w.heap.size w w'->F i v w')
  (L:∀ i,i<ops.size->∀ a w,Zl2 ops base a->Below w0.heap.size w0 w->(∀ j ∈ A i,F j (val ops a j) w)->Zwm P ops Q F i a w)
  (z:∀ a w,Zl2 ops base a->Below w0.heap.size w0 w->(∀ i,i<ops.size->F i (val ops a i) w)->Q .normal a w) :
  ∀ n k m a w,k+n=ops.size->(∀ i,i<k->m.getD i false=true)->(∀ i,k<=i->i<ops.size->m.getD i true=false)->Inv ops A F base w0 m a w->wpOps P ops Q (List.range' k n) a w:=by
 intro n
 induction n with
 | zero =>
  intro k m a w hk D C ⟨K,hS,hB,S⟩
  exact z a w hS hB fun i q=>(S i (D i (by omega))).1
 | succ n ih =>
  intro k m a w hk D C hI
  rw [List.range'_succ,wpOps_cons]
  have G:k<ops.size:=by omega
  obtain ⟨o,d,I,R,E,a7,b3,_,_⟩:=s k G
  have hr:k ∈ Region.ready .any ops m:=mem_ready.2 ⟨C k (Nat.le_refl _) G,o,I,fun e he hb=>D _ (b3 e he hb)⟩
  refine wpOp_mono (fun U w' h=>ih (k+1) _ U w' (by omega) ?_ ?_ h) (Zs6 s u L m a w k hI hr)
  ·intro i q
   by_cases hik:k=i
   ·subst hik;simp [Array.getD_eq_getD_getElem?,hI.1,G]
   ·have:=D i (by omega)
    simpa [Array.getD_eq_getD_getElem?,Array.getElem?_setIfInBounds_ne hik] using this
  ·intro i q b2
   have:=C i (by omega) b2
   simpa [Array.getD_eq_getD_getElem?,Array.getElem?_setIfInBounds_ne (show k≠i by omega)] using this
theorem Zrd {A:Nat->List Nat} {F:Nat->Value->World->Prop} {base:Act} {w0:World} {id:Nat}
  (a0:Znt .any ops base.tmps.size A=true)
  (u:∀ i v w w',F i v w->Below w.heap.size w w'->F i v w')
  (L:∀ i,i<ops.size->∀ a w,Zl2 ops base a->Below w0.heap.size w0 w->(∀ j ∈ A i,F j (val ops a j) w)->Zwm P ops Q F i a w)
  (z:∀ a w,Zl2 ops base a->Below w0.heap.size w0 w->(∀ i,i<ops.size->F i (val ops a i) w)->Q .normal a w) :
  (Code.region id ops false).wp P Q base w0:=by
 refine wp_region ?_
 rw [List.range_eq_range']
 exact Zwn (Zmi a0) u L z _ 0 _ _ _ (by omega) (fun i q=>by omega) (fun i _ q=>by simp [Array.getD,q]) (Zpa (Below.refl _ w0))
theorem Zre {a:Act} {g:Nat} {b:Bool} (h:val ops a g=.bool b):yielded ops a.tmps g=some b:=by
 unfold val Zo at h
 unfold yielded
 cases hg:(ops[g]?).bind (·.dst) with
 | none=>rw [hg] at h;cases h
 | some d =>
  rw [hg] at h
  simp only [Act.eval,Array.getD_eq_getD_getElem?] at h
  cases ht:a.tmps[d]? with
  | none=>rw [ht] at h;cases h
  | some v=>rw [ht] at h;simp only [Option.getD_some] at h;subst h;simp [ht]
variable {F:Nat->Value->World->Prop}
theorem Zf {o:Oper} {y:Nat->Option Bool} (h:o.guard=none):Region.wanted o y=true:=by simp [Region.wanted,h]
theorem Zz0 {o:Oper} {a:Act} {g:Nat} {b M:Bool} (h:o.guard=some (g,M)) (O:val ops a g=.bool b):Region.wanted o (yielded ops a.tmps)=(b==M):=by
 simp only [Region.wanted,h,Zre O]
 cases b<;>cases M<;>rfl
theorem Jr {o:Oper} {a:Act} {g:Nat} {b:Bool} (h:o.guard=some (g,b)) (O:val ops a g=.bool b):Region.wanted o (yielded ops a.tmps)=true:=by
 rw [Zz0 h O];simp
theorem Ze {i:Nat} {o:Oper} {a:Act} {w w':World} {v:Value} (I:ops[i]?=some o) (hw:Region.wanted o (yielded ops a.tmps)=true)
  (hr:(execOp a.eval o).run P w=.ok (.value v) w') (S:F i v w') (hb:Below w.heap.size w w'):Zwm P ops Q F i a w:=by
 unfold Zwm wpOp
 simp only [I,hw,if_true]
 refine .inl ?_
 unfold Oper.wp
 rw [hr,Oper.upon_value]
 exact ⟨v,by simp [Zo,I],S,hb⟩
theorem Zby {i:Nat} {o:Oper} {a:Act} {w:World} {f:FuncId} {args:Array Value} (I:ops[i]?=some o) (hw:Region.wanted o (yielded ops a.tmps)=true)
  (hr:(execOp a.eval o).run P w=.ok (.enter f args) w) (hc:Calls P f args w fun e w'=>∃ v,e=.returned v/\F i v w'/\Below w.heap.size w w'):Zwm P ops Q F i a w:=by
 unfold Zwm wpOp
 simp only [I,hw,if_true]
 refine .inl ?_
 unfold Oper.wp
 rw [hr,Oper.upon_enter]
 refine hc.mono ?_
 rintro e w' ⟨v,rfl,S,hb⟩
 exact ⟨v,by simp [Zo,I],S,hb⟩
end
def Zcy (id:Nat):Code->Option (Array Oper)
 | .region j ops _=>if j=id then some ops else none
 | .seq a b=>match Zcy id a with | some x=>some x | none=>Zcy id b
 | .cond _ a b=>match Zcy id a with | some x=>some x | none=>Zcy id b
 | .block _ b=>Zcy id b
 | .loop b=>Zcy id b
 | .scope b=>Zcy id b
 | .rangeFunc _ _ a b=>match Zcy id a with | some x=>some x | none=>Zcy id b
 | _=>none
def Ze0 (f:Func) (id:Nat):Array Oper:=(f.body.bind (Zcy id)).getD #[]
def eqv (x:Value):Value->World->Prop:=fun v _=>v=x
def laid (zs:List Int):Value->World->Prop:=fun v w=>∃ t,v=.slice (some ⟨t,0,none⟩) zs.length zs.length/\t<w.heap.size/\∀ j,j<zs.length->w.cell? ⟨t,j,none⟩=some (.int .i64 (zs.getD j 0))
def Zh2 (p:Value->World->Prop):Prop:=∀ v w w',p v w->Below w.heap.size w w'->p v w'
theorem Zi1 (x:Value):Zh2 (eqv x):=fun _ _ _ h _=>h
def Ze1 (fs:List (Value->World->Prop)) (i:Nat):Value->World->Prop:=fs.getD i (fun _ _=>True)
theorem Zg9 {fs:List (Value->World->Prop)} (h:∀ p ∈ fs,Zh2 p) (i:Nat) (v:Value) (w w':World) (hf:Ze1 fs i v w) (hb:Below w.heap.size w w'):Ze1 fs i v w':=by
 unfold Ze1 at *
 rw [List.getD_eq_getElem?_getD] at *
 cases q:fs[i]? with
 | none=>trivial
 | some p=>rw [q] at hf;exact h p (List.mem_of_getElem? q) v w w' hf hb
theorem Jl {ops:Array Oper} {j:Nat} {d:Tmp} {c:Act} (E:Zo ops j=some d):val ops c j=c.eval (.tmp d):=by unfold val;rw [E]
theorem Zg {ops:Array Oper} {F:Nat->Value->World->Prop} {j:Nat} {d:Tmp} {c:Act} {w:World} {p:Value->World->Prop} (E:Zo ops j=some d) (hp:F j=p) (h:F j (val ops c j) w):p (c.eval (.tmp d)) w:=by
 rw [<- hp];rwa [Jl E] at h
def Znw (ops:Array Oper) (k:Nat):Bool:=(List.range ops.size).all fun i=>Zo ops i != some k
theorem Za2 {ops:Array Oper} {base c:Act} {k:Tmp} (h:Zl2 ops base c) (hk:Znw ops k=true):c.eval (.tmp k)=base.eval (.tmp k):=by
 have:=h.2.2 k (fun i q=>by have:=List.all_eq_true.1 hk i (List.mem_range.2 q);simpa using this)
 simp only [Act.eval,Array.getD_eq_getD_getElem?,this]
theorem Zgp {ops:Array Oper} {base c:Act} (h:Zl2 ops base c):c=⟨((List.range base.tmps.size).map fun k=>if Znw ops k then base.eval (.tmp k) else c.eval (.tmp k)).toArray,base.defers⟩:=by
 obtain ⟨tm,df⟩:=c
 obtain ⟨D,C,h3⟩:=h
 simp only at D C h3
 subst D
 congr 1
 apply Array.ext
 ·simp [C]
 ·intro i a4 b4
  simp only [List.getElem_toArray,List.getElem_map,List.getElem_range]
  split
  ·rename_i I
   have:=h3 i (fun j B=>by have:=List.all_eq_true.1 I j (List.mem_range.2 B);simpa using this)
   have hb:i<base.tmps.size:=by omega
   simp only [Act.eval,Array.getD_eq_getD_getElem?,<- this]
   simp [a4]
  ·simp [Act.eval,Array.getD_eq_getD_getElem?,a4]
theorem Zmj {p:Nat->Prop}:∀ i,i<0->p i:=fun _ h=>absurd h (Nat.not_lt_zero _)
theorem Ju {p:Nat->Prop} {n:Nat} (h:∀ i,i<n->p i) (hn:p n):∀ i,i<n+1->p i:=fun i q=>by
 rcases Nat.lt_or_eq_of_le (Nat.le_of_lt_succ q) with H | rfl
 ·exact h i H
 ·exact hn
def Jcc (c:Act) (l:List Tmp) (b:Act):Act:=l.foldl (fun b d=>b.put (some d) (c.eval (.tmp d))) b
theorem Zkw (c:Act):∀ (l:List Tmp) (b:Act),(Jcc c l b).defers=b.defers
 | [],_=>rfl
 | d::l,b=>Zkw c l (b.put (some d) (c.eval (.tmp d)))
theorem Zpb (c:Act):∀ (l:List Tmp) (b:Act),(Jcc c l b).tmps.size=b.tmps.size
 | [],_=>rfl
 | d::l,b=>(Zpb c l (b.put (some d) (c.eval (.tmp d)))).trans (by simp [Act.put])
theorem Zs7 (c:Act) (k:Tmp):∀ (l:List Tmp) (b:Act),k<b.tmps.size->(Jcc c l b).tmps[k]?=if k ∈ l then some (c.eval (.tmp k)) else b.tmps[k]?
 | [],b,_=>by simp [Jcc]
 | d::l,b,h=>by
  have:=Zs7 c k l (b.put (some d) (c.eval (.tmp d))) (by simpa [Act.put] using h)
  show (Jcc c l (b.put (some d) (c.eval (.tmp d)))).tmps[k]?=_
  rw [this]
  by_cases hk:k ∈ l
  ·simp [hk]
  ·by_cases R:k=d
   ·subst R;simp [hk,Act.put,h]
   ·simp [hk,R,Act.put,Array.getElem?_setIfInBounds_ne (Ne.symm R)]
theorem Zwo {ops:Array Oper} {base c:Act} (l:List Tmp) (h:Zl2 ops base c) (hl:((List.range base.tmps.size).all fun k=>Znw ops k||l.contains k)=true):c=Jcc c l base:=by
 obtain ⟨tm,df⟩:=c
 obtain ⟨D,C,h3⟩:=h
 have e1:=Zkw ⟨tm,df⟩ l base
 have e2:=Zpb ⟨tm,df⟩ l base
 have e3:=Zs7 ⟨tm,df⟩
 generalize hr:Jcc ⟨tm,df⟩ l base=r at *
 obtain ⟨a8,b6⟩:=r
 simp only at D C h3 e1 e2
 have:tm=a8:=by
  apply Array.ext'
  apply List.ext_getElem?
  intro k
  rw [Array.getElem?_toList,Array.getElem?_toList]
  by_cases hk:k<base.tmps.size
  ·have ek:=e3 k l base hk
   rw [hr] at ek
   simp only at ek
   rw [ek]
   have hm:=List.all_eq_true.1 hl k (List.mem_range.2 hk)
   by_cases hkl:k ∈ l
   ·rw [if_pos hkl];simp [Act.eval,Array.getD_eq_getD_getElem?,show k<tm.size by omega]
   ·rw [if_neg hkl]
    have I:Znw ops k=true:=by simpa [hkl] using hm
    exact h3 k (fun j B=>by have:=List.all_eq_true.1 I j (List.mem_range.2 B);simpa using this)
  ·rw [Array.getElem?_eq_none (by omega),Array.getElem?_eq_none (by omega)]
 rw [this,D,e1]
end Go.Proofs.YthfilnflgahcjaaGreatDoor
