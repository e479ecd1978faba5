import Derived.Orders
import Derived.WalkKit
import Derived.Below
namespace Go.Proofs.YteddjlbfbpecjaaGreatDoor
set_option linter.all false
section
open Go.RowKit
section
variable {P:Program} {ops:Array Oper} {Q:Exit->Act->World->Prop} {md:Region.Mode}
def left (l:Array Bool):Nat:=l.toList.countP (fun b=>!b)
theorem Jbs {l:Array Bool} {i:Nat} (h:l.getD i true=false):left (l.setIfInBounds i true)+1=left l:=by
 have m:i<l.size:=by
  rcases Nat.lt_or_ge i l.size with N | N
  ·exact N
  ·simp [Array.getD,Nat.not_lt.2 N] at h
 have B:l.toList[i]'(by simpa using m)=false:=by
  simpa [Array.getD,m] using h
 unfold left
 rw [Array.toList_setIfInBounds,List.countP_set (by simpa using m)]
 have hp:0<List.countP (fun b=>!b) l.toList:=List.countP_pos_iff.2 ⟨_,List.getElem_mem (by simpa using m),by simp [B]⟩
 rw [B]
 simp only [Bool.not_false,Bool.not_true,if_true,Bool.false_eq_true,if_false]
 omega
theorem Zy1 {l:Array Bool} (h:left l=0) (i:Nat):l.getD i true=true:=by
 rcases Nat.lt_or_ge i l.size with N | N
 ·have:=List.countP_eq_zero.1 h (l[i]) (by simp)
  simp [Array.getD,N]
  simpa using this
 ·simp [Array.getD,Nat.not_lt.2 N]
theorem Zsm (n:Nat):left (Array.replicate n false)=n:=by
 unfold left
 rw [Array.toList_replicate]
 induction n with
 | zero=>rfl
 | succ n ih=>rw [List.replicate_succ,List.countP_cons,ih];simp
theorem Zoy (Inv:Array Bool->Act->World->Prop)
  (a1:∀ l a w i,Inv l a w->i ∈ Region.ready md ops l->wpOp P ops Q i (fun X w'=>Inv (l.setIfInBounds i true) X w') a w)
  (u:∀ l a w,Inv l a w->Region.ready md ops l=[]->Q .normal a w) :
  ∀ E l a w,left l<=E->Inv l a w->wpAny P md ops Q E l a w:=by
 intro E
 induction E with
 | zero =>
  intro l a w hl hI
  have O:Region.ready md ops l=[]:=by
   rw [List.eq_nil_iff_forall_not_mem]
   intro i m
   have h1:=(mem_ready.1 m).1
   rw [Zy1 (by omega) i] at h1
   cases h1
  exact ⟨O,u _ _ _ hI O⟩
 | succ E ih =>
  intro l a w hl hI
  refine ⟨u _ _ _ hI,fun i m=>wpOp_mono (fun X w' h=>ih _ _ _ ?_ h) (a1 _ _ _ i hI m)⟩
  have:=Jbs (mem_ready.1 m).1
  omega
def Zv (ops:Array Oper) (i:Nat):Option Tmp:=(ops[i]?).bind (·.dst)
def val (ops:Array Oper) (a:Act) (i:Nat):Value:=match Zv ops i with | some d=>a.eval (.tmp d) | none=>undef
def Zmp (md:Region.Mode) (ops:Array Oper) (n:Nat) (A:Nat->List Nat):Bool :=
 (List.range ops.size).all fun i =>
  match ops[i]? with
  | none=>false
  | some o =>
   (o.after.all fun e=>!Region.binds md e||decide (e.on<i)) &&
   (match o.dst with
    | none=>false
    | some d=>decide (d<n)&&(List.range i).all fun j=>Zv ops j != some d) &&
   (A i).all fun j=>o.after.any fun e=>Region.binds md e&&(e.on==j||(A e.on).contains j)
def Zaf (ops:Array Oper) (base a:Act):Prop :=
 a.defers=base.defers/\a.tmps.size=base.tmps.size/\∀ k,(∀ i,i<ops.size->Zv ops i≠some k)->a.tmps[k]?=base.tmps[k]?
def Zbp (P:Program) (ops:Array Oper) (Q:Exit->Act->World->Prop) (F:Nat->Value->World->Prop) (i:Nat) (a:Act) (w:World):Prop :=
 wpOp P ops Q i (fun X w'=>∃ v,X=a.put (Zv ops i) v/\F i v w'/\Below w.heap.size w w') a w
def Inv (ops:Array Oper) (A:Nat->List Nat) (F:Nat->Value->World->Prop) (base:Act) (r:World) (l:Array Bool) (a:Act) (w:World):Prop :=
 l.size=ops.size/\Zaf ops base a/\Below r.heap.size r w /\
 ∀ i,l.getD i false=true->F i (val ops a i) w/\∀ j ∈ A i,l.getD j false=true
def Zmq (ops:Array Oper) (n:Nat) (A:Nat->List Nat):Prop :=
 ∀ i,i<ops.size->∃ o d,ops[i]?=some o/\o.dst=some d/\Zv ops i=some d/\d<n/\(∀ e ∈ o.after,Region.binds .any e=true->e.on<i) /\
   (∀ j,j<i->Zv ops j≠some d)/\(∀ j ∈ A i,∃ e ∈ o.after,Region.binds .any e=true/\(e.on=j\/j ∈ A e.on))
theorem Zk8 {n:Nat} {A:Nat->List Nat} (T:Zmp .any ops n A=true):Zmq ops n A:=by
 intro i m
 have h:=List.all_eq_true.1 T i (List.mem_range.2 m)
 have a6:ops[i]?=some ops[i]:=by simp [m]
 rw [a6] at h
 simp only [Bool.and_eq_true] at h
 obtain ⟨⟨h1,h2⟩,h3⟩:=h
 cases hd:ops[i].dst with
 | none=>rw [hd] at h2;cases h2
 | some d =>
  rw [hd] at h2
  simp only [Bool.and_eq_true,decide_eq_true_eq] at h2
  refine ⟨_,d,a6,hd,by simp [Zv,a6,hd],h2.1,?_,?_,?_⟩
  ·intro e he z
   have:=Array.all_eq_true_iff_forall_mem.1 h1 e he
   simpa [z] using this
  ·intro j H
   have:=List.all_eq_true.1 h2.2 j (List.mem_range.2 H)
   simpa using this
  ·intro j H
   have:=List.all_eq_true.1 h3 j H
   obtain ⟨k,K,h⟩:=Array.any_eq_true.1 this
   simp only [Bool.and_eq_true,Bool.or_eq_true,beq_iff_eq,List.contains_iff_mem] at h
   exact ⟨_,Array.getElem_mem K,h.1,h.2⟩
theorem Zmr {n:Nat} {A:Nat->List Nat} (q:Zmq ops n A):∀ i j,i<ops.size->j<ops.size->i≠j->Zv ops i≠Zv ops j:=by
 intro i j m H a4
 obtain ⟨o,d,_,_,C,_,_,z,_⟩:=q i m
 obtain ⟨o',d',_,_,S,_,_,b2,_⟩:=q j H
 rw [C,S]
 intro h
 rcases Nat.lt_or_gt_of_ne a4 with N | N
 ·exact b2 i N (by rw [C,h])
 ·exact z j N (by rw [S,h])
theorem Zsn {A:Nat->List Nat} {F:Nat->Value->World->Prop} {base:Act} {r:World} (q:Zmq ops base.tmps.size A)
  (s:∀ i v w w',F i v w->Below w.heap.size w w'->F i v w')
  (G:∀ i,i<ops.size->∀ a w,Zaf ops base a->Below r.heap.size r w->(∀ j ∈ A i,F j (val ops a j) w)->Zbp P ops Q F i a w) :
  ∀ l a w i,Inv ops A F base r l a w->i ∈ Region.ready .any ops l->wpOp P ops Q i (fun X w'=>Inv ops A F base r (l.setIfInBounds i true) X w') a w:=by
 have a7:=Zmr q
 rintro l a w i ⟨I,hS,hB,L⟩ O
 obtain ⟨b6,o',W,Y⟩:=mem_ready.1 O
 have m:i<ops.size:=by
  rcases Nat.lt_or_ge i ops.size with h | h
  ·exact h
  ·rw [Array.getElem?_eq_none h] at W;cases W
 obtain ⟨o,d,D,hd,C,a3,_,_,hA⟩:=q i m
 have:o'=o:=by rw [D] at W;exact (Option.some.inj W).symm
 subst this
 have a8:∀ j ∈ A i,l.getD j false=true:=by
  intro j H
  obtain ⟨e,he,z,b4⟩:=hA j H
  have hl:=Y e he z
  rcases b4 with rfl | h
  ·exact hl
  ·exact (L _ hl).2 j h
 refine wpOp_mono ?_ (G i m a w hS hB fun j H=>(L j (a8 j H)).1)
 rintro X w' ⟨v,rfl,b1,z⟩
 have a0:∀ k,k≠d->(a.put (Zv ops i) v).tmps[k]?=a.tmps[k]?:=by
  intro k K
  simp [C,Act.put,Array.getElem?_setIfInBounds_ne (Ne.symm K)]
 refine ⟨by simp [I],⟨by simp [C,Act.put];exact hS.1,by simp [C,Act.put];exact hS.2.1,fun k K=>?_⟩,hB.trans (z.mono hB.size),fun j H=>?_⟩
 ·rw [a0 k (fun h=>K i m (by rw [C,h]))];exact hS.2.2 k K
 ·by_cases hji:j=i
  ·subst hji
   have B:val ops (a.put (Zv ops j) v) j=v:=by
    simp [val,C,Act.put,Act.eval,Array.getD_eq_getD_getElem?,show d<a.tmps.size by rw [hS.2.1];exact a3]
   refine ⟨by rw [B];exact b1,fun k K=>?_⟩
   have:=a8 k K
   by_cases hkj:j=k
   ·subst hkj;simp [Array.getD_eq_getD_getElem?,I,m]
   ·simpa [Array.getD_eq_getD_getElem?,Array.getElem?_setIfInBounds_ne hkj] using this
  ·have a2:l.getD j false=true:=by
    simpa [Array.getD_eq_getD_getElem?,Array.getElem?_setIfInBounds_ne (Ne.symm hji)] using H
   have b0:j<ops.size:=by
    rcases Nat.lt_or_ge j ops.size with h | h
    ·exact h
    ·simp [Array.getD,I,Nat.not_lt.2 h] at a2
   have B:val ops (a.put (Zv ops i) v) j=val ops a j:=by
    obtain ⟨_,d',_,_,S,_⟩:=q j b0
    have a4:d'≠d:=fun h=>a7 j i b0 m hji (by rw [S,C,h])
    simp [val,S,Act.eval,Array.getD_eq_getD_getElem?,a0 d' a4]
   refine ⟨by rw [B];exact s _ _ _ _ (L j a2).1 z,fun k K=>?_⟩
   have:=(L j a2).2 k K
   by_cases M:i=k
   ·subst M;simp [Array.getD_eq_getD_getElem?,I,m]
   ·simpa [Array.getD_eq_getD_getElem?,Array.getElem?_setIfInBounds_ne M] using this
theorem Zoz {A:Nat->List Nat} {F:Nat->Value->World->Prop} {base:Act} {r w:World} (hB:Below r.heap.size r w):Inv ops A F base r (Array.replicate ops.size false) base w:=by
 refine ⟨by simp,⟨rfl,rfl,fun _ _=>rfl⟩,hB,?_⟩
 intro i m
 rcases Nat.lt_or_ge i ops.size with h | h
 ·simp [Array.getD,h] at m
 ·simp [Array.getD,Nat.not_lt.2 h] at m
theorem Zk9 {A:Nat->List Nat} {F:Nat->Value->World->Prop} {base:Act} {r:World} {id:Nat}
  (hm:P.follows .mixedOrders=true)
  (T:Zmp .any ops base.tmps.size A=true)
  (s:∀ i v w w',F i v w->Below w.heap.size w w'->F i v w')
  (G:∀ i,i<ops.size->∀ a w,Zaf ops base a->Below r.heap.size r w->(∀ j ∈ A i,F j (val ops a j) w)->Zbp P ops Q F i a w)
  (u:∀ a w,Zaf ops base a->Below r.heap.size r w->(∀ i,i<ops.size->F i (val ops a i) w)->Q .normal a w) :
  (Code.region id ops true).wp P Q base r:=by
 have q:=Zk8 T
 refine wp_region_any hm (Zoy (Inv ops A F base r) (Zsn q s G) ?_ _ _ _ _ (by rw [Zsm];exact Nat.le_refl _) (Zoz (Below.refl _ r).drew))
 rintro l a w ⟨I,hS,hB,L⟩ O
 have a5:∀ i,i<ops.size->l.getD i false=true:=by
  intro i
  induction i using Nat.strongRecOn with
  | _ i ih =>
   intro m
   obtain ⟨o,d,D,hd,C,a3,U,_,_⟩:=q i m
   by_cases h:l.getD i true=true
   ·simpa [Array.getD,I,m] using h
   ·have hf:l.getD i true=false:=by simpa using h
    have:i ∈ Region.ready .any ops l:=mem_ready.2 ⟨hf,o,D,fun e he z=>ih _ (U e he z) (Nat.lt_trans (U e he z) m)⟩
    rw [O] at this;cases this
 exact u a w hS hB fun i m=>(L i (a5 i m)).1
theorem Zy2 {A:Nat->List Nat} {F:Nat->Value->World->Prop} {base:Act} {r:World} (q:Zmq ops base.tmps.size A)
  (s:∀ i v w w',F i v w->Below w.heap.size w w'->F i v w')
  (G:∀ i,i<ops.size->∀ a w,Zaf ops base a->Below r.heap.size r w->(∀ j ∈ A i,F j (val ops a j) w)->Zbp P ops Q F i a w)
  (u:∀ a w,Zaf ops base a->Below r.heap.size r w->(∀ i,i<ops.size->F i (val ops a i) w)->Q .normal a w) :
  ∀ n k l a w,k+n=ops.size->(∀ i,i<k->l.getD i false=true)->(∀ i,k<=i->i<ops.size->l.getD i true=false)->Inv ops A F base r l a w->wpOps P ops Q (List.range' k n) a w:=by
 intro n
 induction n with
 | zero =>
  intro k l a w K h1 h2 ⟨I,hS,hB,L⟩
  exact u a w hS hB fun i m=>(L i (h1 i (by omega))).1
 | succ n ih =>
  intro k l a w K h1 h2 hI
  rw [List.range'_succ,wpOps_cons]
  have M:k<ops.size:=by omega
  obtain ⟨o,d,D,hd,C,a3,U,_,_⟩:=q k M
  have O:k ∈ Region.ready .any ops l:=mem_ready.2 ⟨h2 k (Nat.le_refl _) M,o,D,fun e he z=>h1 _ (U e he z)⟩
  refine wpOp_mono (fun X w' h=>ih (k+1) _ X w' (by omega) ?_ ?_ h) (Zsn q s G l a w k hI O)
  ·intro i m
   by_cases hik:k=i
   ·subst hik;simp [Array.getD_eq_getD_getElem?,hI.1,M]
   ·have:=h1 i (by omega)
    simpa [Array.getD_eq_getD_getElem?,Array.getElem?_setIfInBounds_ne hik] using this
  ·intro i m b3
   have:=h2 i (by omega) b3
   simpa [Array.getD_eq_getD_getElem?,Array.getElem?_setIfInBounds_ne (show k≠i by omega)] using this
theorem Zqg {A:Nat->List Nat} {F:Nat->Value->World->Prop} {base:Act} {r:World} {id:Nat}
  (T:Zmp .any ops base.tmps.size A=true)
  (s:∀ i v w w',F i v w->Below w.heap.size w w'->F i v w')
  (G:∀ i,i<ops.size->∀ a w,Zaf ops base a->Below r.heap.size r w->(∀ j ∈ A i,F j (val ops a j) w)->Zbp P ops Q F i a w)
  (u:∀ a w,Zaf ops base a->Below r.heap.size r w->(∀ i,i<ops.size->F i (val ops a i) w)->Q .normal a w) :
  (Code.region id ops false).wp P Q base r:=by
 refine wp_region ?_
 rw [List.range_eq_range']
 exact Zy2 (Zk8 T) s G u _ 0 _ _ _ (by omega) (fun i m=>by omega) (fun i _ m=>by simp [Array.getD,m]) (Zoz (Below.refl _ r))
theorem Zqh {a:Act} {g:Nat} {b:Bool} (h:val ops a g=.bool b):yielded ops a.tmps g=some b:=by
 unfold val Zv at h
 unfold yielded
 cases hg:(ops[g]?).bind (·.dst) with
 | none=>rw [hg] at h;cases h
 | some d =>
  rw [hg] at h
  simp only [Act.eval,Array.getD_eq_getD_getElem?] at h
  cases ht:a.tmps[d]? with
  | none=>rw [ht] at h;cases h
  | some v=>rw [ht] at h;simp only [Option.getD_some] at h;subst h;simp [ht]
variable {F:Nat->Value->World->Prop}
theorem Zz {o:Oper} {y:Nat->Option Bool} (h:o.guard=none):Region.wanted o y=true:=by simp [Region.wanted,h]
theorem Zms {o:Oper} {a:Act} {g:Nat} {b want:Bool} (h:o.guard=some (g,want)) (B:val ops a g=.bool b):Region.wanted o (yielded ops a.tmps)=(b==want):=by
 simp only [Region.wanted,h,Zqh B]
 cases b<;>cases want<;>rfl
theorem Jd1 {o:Oper} {a:Act} {g:Nat} {b:Bool} (h:o.guard=some (g,b)) (B:val ops a g=.bool b):Region.wanted o (yielded ops a.tmps)=true:=by
 rw [Zms h B];simp
theorem Ze {i:Nat} {o:Oper} {a:Act} {w w':World} {v:Value} (D:ops[i]?=some o) (hw:Region.wanted o (yielded ops a.tmps)=true)
  (O:(execOp a.eval o).run P w=.ok (.value v) w') (L:F i v w') (z:Below w.heap.size w w'):Zbp P ops Q F i a w:=by
 unfold Zbp wpOp
 simp only [D,hw,if_true]
 refine .inl ?_
 unfold Oper.wp
 rw [O,Oper.upon_value]
 exact ⟨v,by simp [Zv,D],L,z⟩
theorem Zc2 {i:Nat} {o:Oper} {a:Act} {w:World} {f:FuncId} {args:Array Value} (D:ops[i]?=some o) (hw:Region.wanted o (yielded ops a.tmps)=true)
  (O:(execOp a.eval o).run P w=.ok (.enter f args) w) (hc:Calls P f args w fun e w'=>∃ v,e=.returned v/\F i v w'/\Below w.heap.size w w'):Zbp P ops Q F i a w:=by
 unfold Zbp wpOp
 simp only [D,hw,if_true]
 refine .inl ?_
 unfold Oper.wp
 rw [O,Oper.upon_enter]
 refine hc.mono ?_
 rintro e w' ⟨v,rfl,L,z⟩
 exact ⟨v,by simp [Zv,D],L,z⟩
theorem Zq {i:Nat} {o:Oper} {a:Act} {w:World} (D:ops[i]?=some o) (hw:Region.wanted o (yielded ops a.tmps)=false) (L:F i undef w):Zbp P ops Q F i a w:=by
 unfold Zbp wpOp
 simp only [D,hw]
 exact ⟨undef,by simp [Zv,D],L,Below.refl _ _⟩
end
def Zci (id:Nat):Code->Option (Array Oper)
 | .region j ops _=>if j=id then some ops else none
 | .seq a b=>match Zci id a with | some x=>some x | none=>Zci id b
 | .cond _ a b=>match Zci id a with | some x=>some x | none=>Zci id b
 | .block _ b=>Zci id b
 | .loop b=>Zci id b
 | .scope b=>Zci id b
 | .rangeFunc _ _ a b=>match Zci id a with | some x=>some x | none=>Zci id b
 | _=>none
def Zy (f:Func) (id:Nat):Array Oper:=(f.body.bind (Zci id)).getD #[]
def eqv (x:Value):Value->World->Prop:=fun v _=>v=x
def laid (zs:List Int):Value->World->Prop:=fun v w=>∃ t,v=.slice (some ⟨t,0,none⟩) zs.length zs.length/\t<w.heap.size/\∀ j,j<zs.length->w.cell? ⟨t,j,none⟩=some (.int .i64 (zs.getD j 0))
def Zct (p:Value->World->Prop):Prop:=∀ v w w',p v w->Below w.heap.size w w'->p v w'
theorem Zal (x:Value):Zct (eqv x):=fun _ _ _ h _=>h
theorem Zd6 (zs:List Int):Zct (laid zs):=fun _ _ _ ⟨t,h1,h2,h3⟩ z=>⟨t,h1,Nat.lt_of_lt_of_le h2 z.size,fun j H=>(z.cell (p:=⟨t,j,none⟩) h2).trans (h3 j H)⟩
def Zg (fs:List (Value->World->Prop)) (i:Nat):Value->World->Prop:=fs.getD i (fun _ _=>True)
theorem Jk {fs:List (Value->World->Prop)} (h:∀ p ∈ fs,Zct p) (i:Nat) (v:Value) (w w':World) (hf:Zg fs i v w) (z:Below w.heap.size w w'):Zg fs i v w':=by
 unfold Zg at *
 rw [List.getD_eq_getElem?_getD] at *
 cases m:fs[i]? with
 | none=>trivial
 | some p=>rw [m] at hf;exact h p (List.mem_of_getElem? m) v w w' hf z
theorem Zy3 {ops:Array Oper} {j:Nat} {d:Tmp} {c:Act} (C:Zv ops j=some d):val ops c j=c.eval (.tmp d):=by unfold val;rw [C]
theorem Jw {ops:Array Oper} {F:Nat->Value->World->Prop} {j:Nat} {d:Tmp} {c:Act} {w:World} {p:Value->World->Prop} (C:Zv ops j=some d) (hp:F j=p) (h:F j (val ops c j) w):p (c.eval (.tmp d)) w:=by
 rw [<- hp];rwa [Zy3 C] at h
def Zy4 (ops:Array Oper) (k:Nat):Bool:=(List.range ops.size).all fun i=>Zv ops i != some k
theorem Zc {ops:Array Oper} {base c:Act} {k:Tmp} (h:Zaf ops base c) (K:Zy4 ops k=true):c.eval (.tmp k)=base.eval (.tmp k):=by
 have:=h.2.2 k (fun i m=>by have:=List.all_eq_true.1 K i (List.mem_range.2 m);simpa using this)
 simp only [Act.eval,Array.getD_eq_getD_getElem?,this]
def gv (b:Bool) (v:Value):Value:=bif b then v else undef
theorem Zy5 {ops:Array Oper} {o:Oper} {a:Act} {g:Nat} {b x want:Bool} (h:o.guard=some (g,want)) (B:val ops a g=gv b (.bool x)):Region.wanted o (yielded ops a.tmps)=(b&&(x==want)):=by
 cases b
 ·simp only [Region.wanted,h]
  have:yielded ops a.tmps g=none:=by
   unfold val Zv at B
   unfold yielded
   cases hg:(ops[g]?).bind (·.dst) with
   | none=>rfl
   | some d =>
    rw [hg] at B
    simp only [Act.eval,Array.getD_eq_getD_getElem?] at B
    simp only [Option.bind_some]
    cases ht:a.tmps[d]? with
    | none=>rfl
    | some v=>rw [ht] at B;simp only [Option.getD_some] at B;subst B;rfl
  rw [this];simp
 ·rw [Zms h (show val ops a g=.bool x from B)];simp
theorem Zmt {ops:Array Oper} {base c:Act} (h:Zaf ops base c):c=⟨((List.range base.tmps.size).map fun k=>if Zy4 ops k then base.eval (.tmp k) else c.eval (.tmp k)).toArray,base.defers⟩:=by
 obtain ⟨tm,df⟩:=c
 obtain ⟨h1,h2,h3⟩:=h
 simp only at h1 h2 h3
 subst h1
 congr 1
 apply Array.ext
 ·simp [h2]
 ·intro i a9 b5
  simp only [List.getElem_toArray,List.getElem_map,List.getElem_range]
  split
  ·rename_i D
   have:=h3 i (fun j H=>by have:=List.all_eq_true.1 D j (List.mem_range.2 H);simpa using this)
   have z:i<base.tmps.size:=by omega
   simp only [Act.eval,Array.getD_eq_getD_getElem?,<- this]
   simp [a9]
  ·simp [Act.eval,Array.getD_eq_getD_getElem?,a9]
theorem Zf {p:Nat->Prop}:∀ i,i<0->p i:=fun _ h=>absurd h (Nat.not_lt_zero _)
theorem Zd {p:Nat->Prop} {n:Nat} (h:∀ i,i<n->p i) (hn:p n):∀ i,i<n+1->p i:=fun i m=>by
 rcases Nat.lt_or_eq_of_le (Nat.le_of_lt_succ m) with N | rfl
 ·exact h i N
 ·exact hn
theorem evc (c:Act):∀ v,c.eval (.const v)=v:=fun _=>rfl
theorem evf (c:Act):∀ f,c.eval (.func f)=.func (.func f) #[] #[]:=fun _=>rfl
theorem Zm {ops:Array Oper} {F:Nat->Value->World->Prop} {j:Nat} {d:Tmp} {c:Act} {w:World} {V:Value} (C:Zv ops j=some d) (hp:F j=eqv V) (h:F j (val ops c j) w):c.eval (.tmp d)=V:=Jw (p:=eqv V) C hp h
theorem wgv {R ops:Array Oper} {i:Nat} {o:Oper} {a:Act} {g:Nat} {b x want:Bool} (D:R[i]?=some o) (h:o.guard=some (g,want)) (B:val ops a g=gv b (.bool x)):Region.wanted o (yielded ops a.tmps)=(b&&(x==want)):=Zy5 h B
end
section
open Go.RowKit
def upd {α:Type} (f:Nat->α) (i:Nat) (x:α):Nat->α:=fun j=>if j=i then x else f j
theorem Zb4 {α:Type} (f:Nat->α) (i:Nat) (x:α):upd f i x i=x:=by simp [upd]
theorem Zat {α:Type} (f:Nat->α) {i j:Nat} (x:α) (h:j≠i):upd f i x j=f j:=by simp [upd,h]
section
variable {P:Program} {ops:Array Oper} {Q:Exit->Act->World->Prop}
def Zge (ops:Array Oper) (n:Nat) (A:Nat->List Nat):Bool :=
 (List.range ops.size).all fun i =>
  match ops[i]? with
  | none=>false
  | some o =>
   (o.after.all fun e=>!Region.binds .any e||decide (e.on<i)) &&
   (match o.dst with
    | none=>true
    | some d=>decide (d<n)&&(List.range i).all fun j=>Zv ops j != some d) &&
   (A i).all fun j=>o.after.any fun e=>Region.binds .any e&&(e.on==j||(A e.on).contains j)
def Laid (ops:Array Oper) (n:Nat) (A:Nat->List Nat):Prop :=
 ∀ i,i<ops.size->∃ o,ops[i]?=some o/\Zv ops i=o.dst/\(∀ d,o.dst=some d->d<n)/\(∀ e ∈ o.after,Region.binds .any e=true->e.on<i) /\
   (∀ j d,j<i->o.dst=some d->Zv ops j≠some d)/\(∀ j ∈ A i,∃ e ∈ o.after,Region.binds .any e=true/\(e.on=j\/j ∈ A e.on))
theorem Zd3 {n:Nat} {A:Nat->List Nat} (E:Zge ops n A=true):Laid ops n A:=by
 intro i g
 have h:=List.all_eq_true.1 E i (List.mem_range.2 g)
 have L:ops[i]?=some ops[i]:=by simp [g]
 rw [L] at h
 simp only [Bool.and_eq_true] at h
 obtain ⟨⟨h1,h2⟩,h3⟩:=h
 refine ⟨_,L,by simp [Zv,L],?_,?_,?_,?_⟩
 ·intro d W
  rw [W] at h2
  simp only [Bool.and_eq_true,decide_eq_true_eq] at h2
  exact h2.1
 ·intro e N z
  have:=Array.all_eq_true_iff_forall_mem.1 h1 e N
  simpa [z] using this
 ·intro j d m W
  rw [W] at h2
  simp only [Bool.and_eq_true,decide_eq_true_eq] at h2
  have:=List.all_eq_true.1 h2.2 j (List.mem_range.2 m)
  simpa using this
 ·intro j m
  have:=List.all_eq_true.1 h3 j m
  obtain ⟨k,q,h⟩:=Array.any_eq_true.1 this
  simp only [Bool.and_eq_true,Bool.or_eq_true,beq_iff_eq,List.contains_iff_mem] at h
  exact ⟨_,Array.getElem_mem q,h.1,h.2⟩
def Jk9 (ops:Array Oper) (A:Nat->List Nat) (G:Nat->Value->Prop) (S:(Nat->Bool)->(Nat->Value)->World->Prop) (base:Act) (b:Array Bool) (a:Act) (w:World):Prop :=
 b.size=ops.size/\Zaf ops base a/\S (fun j=>b.getD j false) (val ops a) w/\∀ i,b.getD i false=true->G i (val ops a i)/\∀ j ∈ A i,b.getD j false=true
def Jgh (P:Program) (ops:Array Oper) (Q:Exit->Act->World->Prop) (G:Nat->Value->Prop) (S:(Nat->Bool)->(Nat->Value)->World->Prop) (i:Nat) (l:Nat->Bool) (a:Act) (w:World):Prop :=
 wpOp P ops Q i (fun Y w'=>∃ v,Y=a.put (Zv ops i) v/\G i (val ops Y i)/\S (upd l i true) (upd (val ops a) i (val ops Y i)) w') a w
theorem Zfr {A:Nat->List Nat} {G:Nat->Value->Prop} {S:(Nat->Bool)->(Nat->Value)->World->Prop} {base:Act} {w0:World} {id:Nat}
  (hm:P.follows .mixedOrders=true) (E:Zge ops base.tmps.size A=true)
  (y:S (fun _=>false) (val ops base) w0.drew)
  (a3:∀ i,i<ops.size->∀ l a w,Zaf ops base a->l i=false->(∀ k,l k=true->∀ j ∈ A k,l j=true)->(∀ j ∈ A i,l j=true/\G j (val ops a j))->S l (val ops a) w->Jgh P ops Q G S i l a w)
  (X:∀ l a w,Zaf ops base a->(∀ i,i<ops.size->l i=true/\G i (val ops a i))->S l (val ops a) w->Q .normal a w) :
  (Code.region id ops true).wp P Q base w0:=by
 have p:=Zd3 E
 have B:∀ i,i<ops.size->∀ (a:Act) (v:Value) (j:Nat),j≠i->val ops (a.put (Zv ops i) v) j=val ops a j:=by
  intro i g a v j c
  unfold val
  cases m:Zv ops j with
  | none=>rfl
  | some d =>
   have K:∀ C,Zv ops i=some C->C≠d:=by
    intro C R e
    subst e
    have a9:j<ops.size:=by
     rcases Nat.lt_or_ge j ops.size with h | h
     ·exact h
     ·unfold Zv at m;rw [Array.getElem?_eq_none h] at m;cases m
    obtain ⟨o,_,O,_,_,z,_⟩:=p i g
    obtain ⟨o',_,a0,_,_,a2,_⟩:=p j a9
    rcases Nat.lt_or_gt_of_ne c with h | h
    ·exact z j C h (O▸R) m
    ·exact a2 i C h (a0▸m) R
   cases hi':Zv ops i with
   | none=>simp [Act.put]
   | some C=>simp [Act.put,Act.eval,Array.getD_eq_getD_getElem?,Array.getElem?_setIfInBounds_ne (K C hi')]
 refine wp_region_any hm (Zoy (Jk9 ops A G S base) ?_ ?_ _ _ _ _ (by rw [Zsm];exact Nat.le_refl _) ⟨by simp,⟨rfl,rfl,fun _ _=>rfl⟩,?_,?_⟩)
 ·rintro b a w i ⟨r,H,D,M⟩ hr
  obtain ⟨a5,o',t,u⟩:=mem_ready.1 hr
  have g:i<ops.size:=by
   rcases Nat.lt_or_ge i ops.size with h | h
   ·exact h
   ·rw [Array.getElem?_eq_none h] at t;cases t
  obtain ⟨o,V,O,a8,_,_,hA⟩:=p i g
  have:o'=o:=by rw [V] at t;exact (Option.some.inj t).symm
  subst this
  have F:b.getD i false=false:=by simpa [Array.getD,r,g] using a5
  have I:∀ j ∈ A i,b.getD j false=true:=by
   intro j m
   obtain ⟨e,N,z,a4⟩:=hA j m
   have hl:=u e N z
   rcases a4 with rfl | h
   ·exact hl
   ·exact (M _ hl).2 j h
  refine wpOp_mono ?_ (a3 i g (fun j=>b.getD j false) a w H F (fun k q=>(M k q).2) (fun j m=>⟨I j m,(M j (I j m)).1⟩) D)
  rintro Y w' ⟨v,rfl,hG,a7⟩
  have a1:(fun j=>(b.setIfInBounds i true).getD j false)=upd (fun j=>b.getD j false) i true:=by
   funext j
   by_cases c:j=i
   ·subst c;rw [Zb4];simp [Array.getD_eq_getD_getElem?,r,g]
   ·rw [Zat _ _ c];simp [Array.getD_eq_getD_getElem?,Array.getElem?_setIfInBounds_ne (Ne.symm c)]
  have a6:val ops (a.put (Zv ops i) v)=upd (val ops a) i (val ops (a.put (Zv ops i) v) i):=by
   funext j
   by_cases c:j=i
   ·subst c;rw [Zb4]
   ·rw [Zat _ _ c];exact B i g a v j c
  refine ⟨by simp [r],⟨?_,?_,fun k q=>?_⟩,?_,fun j m=>?_⟩
  ·cases Zv ops i<;>simp [Act.put]<;>exact H.1
  ·cases Zv ops i<;>simp [Act.put]<;>exact H.2.1
  ·have K:=q i g
   cases hsi:Zv ops i with
   | none=>simp [Act.put];exact H.2.2 k q
   | some d =>
    have:d≠k:=fun e=>K (by rw [hsi,e])
    simp only [Act.put,Array.getElem?_setIfInBounds_ne this]
    exact H.2.2 k q
  ·rw [a1,a6];exact a7
  ·by_cases c:j=i
   ·subst c
    refine ⟨hG,fun k q=>?_⟩
    have:=I k q
    by_cases hkj:k=j
    ·subst hkj;rw [F] at this;cases this
    ·simpa [Array.getD_eq_getD_getElem?,Array.getElem?_setIfInBounds_ne (Ne.symm hkj)] using this
   ·have U:b.getD j false=true:=by
     simpa [Array.getD_eq_getD_getElem?,Array.getElem?_setIfInBounds_ne (Ne.symm c)] using m
    refine ⟨by rw [B i g a v j c];exact (M j U).1,fun k q=>?_⟩
    have:=(M j U).2 k q
    by_cases hki:k=i
    ·subst hki;rw [F] at this;cases this
    ·simpa [Array.getD_eq_getD_getElem?,Array.getElem?_setIfInBounds_ne (Ne.symm hki)] using this
 ·rintro b a w ⟨r,H,D,M⟩ hr
  have s:∀ i,i<ops.size->b.getD i false=true:=by
   intro i
   induction i using Nat.strongRecOn with
   | _ i ih =>
    intro g
    obtain ⟨o,V,O,a8,T,_,_⟩:=p i g
    by_cases h:b.getD i true=true
    ·simpa [Array.getD,r,g] using h
    ·have hf:b.getD i true=false:=by simpa using h
     have:i ∈ Region.ready .any ops b:=mem_ready.2 ⟨hf,o,V,fun e N z=>ih _ (T e N z) (Nat.lt_trans (T e N z) g)⟩
     rw [hr] at this;cases this
  exact X (fun j=>b.getD j false) a w H (fun i g=>⟨s i g,(M i (s i g)).1⟩) D
 ·have e:(fun j=>(Array.replicate ops.size false).getD j false)=fun _=>false:=by
   funext j
   rcases Nat.lt_or_ge j ops.size with h | h
   ·simp [Array.getD,h]
   ·simp [Array.getD,Nat.not_lt.2 h]
  rw [e];exact y
 ·intro i g
  rcases Nat.lt_or_ge i ops.size with h | h
  ·simp [Array.getD,h] at g
  ·simp [Array.getD,Nat.not_lt.2 h] at g
variable {G:Nat->Value->Prop} {S:(Nat->Bool)->(Nat->Value)->World->Prop} {l:Nat->Bool}
theorem Zma {i:Nat} {o:Oper} {a:Act} {d:Tmp} (V:ops[i]?=some o) (W:o.dst=some d) (hn:d<a.tmps.size) (v:Value):val ops (a.put (Zv ops i) v) i=v:=by
 have O:Zv ops i=some d:=by simp [Zv,V,W]
 simp [val,O,Act.put,Act.eval,Array.getD_eq_getD_getElem?,hn]
end
end
section
open Go.RowKit
variable {P:Program} {ops:Array Oper} {Q:Exit->Act->World->Prop}
theorem Zqb {base a b:Act} (ha:Zaf ops base a) (z:Zaf ops base b) (h:∀ i,i<ops.size->val ops a i=val ops b i):a=b:=by
 obtain ⟨d1,s1,o1⟩:=ha
 obtain ⟨d2,s2,o2⟩:=z
 have ht:a.tmps=b.tmps:=by
  apply Array.ext (by rw [s1,s2])
  intro t h1 h2
  by_cases C:∃ i,i<ops.size/\Zv ops i=some t
  ·obtain ⟨i,p,D⟩:=C
   have:=h i p
   rw [Zy3 D,Zy3 D] at this
   simpa [Act.eval,Array.getD_eq_getD_getElem?,h1,h2] using this
  ·have E:∀ i,i<ops.size->Zv ops i≠some t:=fun i p e=>C ⟨i,p,e⟩
   have:=(o1 t E).trans (o2 t E).symm
   simpa [h1,h2] using this
 cases a;cases b
 simp only at ht d1 d2
 subst ht
 rw [d1,d2]
theorem Zce {A:Nat->List Nat} {F:Nat->Value->World->Prop} {base:Act} {s:World} {id:Nat} (k:Nat) (R:k+1=ops.size) (a7:Zv ops k=none)
  (hm:P.follows .mixedOrders=true) (u:Zge ops base.tmps.size A=true) (K:∀ i,i<k->∃ d,Zv ops i=some d) (N:∀ i,i<k->i ∈ A k)
  (y:∀ i v w w',F i v w->Below w.heap.size w w'->F i v w')
  (Y:∀ i,i<k->∀ a w,Zaf ops base a->Below s.heap.size s w->(∀ j ∈ A i,F j (val ops a j) w)->Zbp P ops Q F i a w)
  (q:∀ a w,Zaf ops base a->Below s.heap.size s w->(∀ i,i<k->F i (val ops a i) w)->wpOp P ops Q k (fun L w'=>(∃ v,L=a.put (Zv ops k) v)/\Q .normal a w') a w) :
  (Code.region id ops true).wp P Q base s:=by
 refine Zfr (A:=A) (G:=fun _ _=>True) (S:=fun l vs w=>(l k=false->Below s.heap.size s w/\∀ i,l i=true->i<ops.size->F i (vs i) w)/\(l k=true->∀ b,Zaf ops base b->(∀ i,i<ops.size->i≠k->val ops b i=vs i)->Q .normal b w)) hm u ⟨fun _=>⟨(Below.refl _ _).drew,fun i h=>(by cases h)⟩,fun h=>(by cases h)⟩ ?_ ?_
 ·rintro i p l a w B x a9 hA ⟨a2,hK⟩
  have I:l k=false:=by
   cases h:l k with
   | false=>rfl
   | true =>
    by_cases e:i=k
    ·rw [e,h] at x;cases x
    ·have:=a9 k h i (N i (by omega));rw [x] at this;cases this
  obtain ⟨U,V⟩:=a2 I
  by_cases e:i=k
  ·subst e
   refine wpOp_mono ?_ (q a w B U fun j m=>V j (hA j (N j m)).1 (by omega))
   rintro L w' ⟨⟨v,rfl⟩,hq⟩
   refine ⟨v,rfl,trivial,fun h=>?_,fun _ b a1 X=>?_⟩
   ·rw [Zb4] at h;cases h
   ·have:b=a:=Zqb a1 B fun j m=>by
     by_cases ej:j=i
     ·subst ej;unfold val;rw [a7]
     ·rw [X j m ej,Zat _ _ ej]
    rw [this];exact hq
  ·have H:i<k:=by omega
   have r:∀ j ∈ A i,j<ops.size:=by
    have key:∀ n i,i<n->i<ops.size->∀ j ∈ A i,j<ops.size:=by
     intro n
     induction n with
     | zero=>intro i h;omega
     | succ n ih =>
      intro i h p j m
      obtain ⟨o,_,_,_,r,_,a5⟩:=Zd3 u i p
      obtain ⟨e,he,z,a0⟩:=a5 j m
      have h1:=r e he z
      rcases a0 with rfl | h2
      ·omega
      ·exact ih e.on (by omega) (by omega) j h2
    exact key (i+1) i (by omega) p
   refine wpOp_mono ?_ (Y i H a w B U (fun j m=>V j (hA j m).1 (r j m)))
   rintro L w' ⟨v,rfl,a3,z⟩
   obtain ⟨d,hd⟩:=K i H
   obtain ⟨o,O,C,a4,_,_,_⟩:=Zd3 u i p
   have a8:d<a.tmps.size:=by rw [B.2.1];exact a4 d (C▸hd)
   have X:=Zma O (C▸hd:o.dst=some d) a8 v
   refine ⟨v,rfl,trivial,fun h=>⟨U.trans (z.mono U.size),fun j m b0=>?_⟩,fun h=>?_⟩
   ·by_cases ej:j=i
    ·subst ej;rw [Zb4,X];exact a3
    ·rw [Zat _ _ ej] at m |-
     exact y _ _ _ _ (V j m b0) z
   ·rw [Zat _ _ (Ne.symm e),I] at h;cases h
 ·rintro l a w B M ⟨V,hK⟩
  exact hK (M k (by omega)).1 a B fun _ _ _=>rfl
theorem Zb5 {k:Nat} {o:Oper} {a:Act} {w w':World} (O:ops[k]?=some o) (hw:Region.wanted o (yielded ops a.tmps)=true)
  (hr:(execOp a.eval o).run P w=.ok .skip w') (hq:Q .normal a w'):wpOp P ops Q k (fun L w'=>(∃ v,L=a.put (Zv ops k) v)/\Q .normal a w') a w:=by
 unfold wpOp
 simp only [O,hw,if_true]
 refine .inl ?_
 unfold Oper.wp
 rw [hr,Oper.upon_skip]
 exact ⟨⟨undef,by simp [Zv,O]⟩,hq⟩
def Zyq (ops:Array Oper) (g:List Nat):Bool:=(List.range ops.size).all fun i=>match Zv ops i with | some d=>g.contains d | none=>true
theorem Zsi {f:Nat->Value}:∀ (g:List Nat) (T:Array Value) (k:Nat),(g.foldl (fun t d=>t.setIfInBounds d (f d)) T)[k]?=if k ∈ g/\k<T.size then some (f k) else T[k]?
 | [],T,k=>by simp
 | d::g,T,k=>by
  rw [List.foldl_cons,Zsi g,Array.size_setIfInBounds]
  by_cases h1:k ∈ g/\k<T.size
  ·rw [if_pos h1,if_pos ⟨List.mem_cons_of_mem _ h1.1,h1.2⟩]
  ·rw [if_neg h1]
   by_cases h2:k=d
   ·subst h2
    by_cases h3:k<T.size
    ·rw [if_pos ⟨List.mem_cons_self,h3⟩,Array.getElem?_setIfInBounds_self_of_lt h3]
    ·rw [if_neg (fun h=>h3 h.2)]
     rw [Array.getElem?_eq_none (by simpa using h3),Array.getElem?_eq_none (by simpa using h3)]
   ·rw [Array.getElem?_setIfInBounds_ne (Ne.symm h2)]
    rw [if_neg (fun h=>h1 ⟨(List.mem_cons.1 h.1).resolve_left h2,h.2⟩)]
theorem Zba {base c:Act} (h:Zaf ops base c) (g:List Nat) (a6:Zyq ops g=true):c=⟨g.foldl (fun t d=>t.setIfInBounds d (c.eval (.tmp d))) base.tmps,base.defers⟩:=by
 obtain ⟨tm,df⟩:=c
 obtain ⟨h1,h2,h3⟩:=h
 simp only at h1 h2 h3
 subst h1
 congr 1
 apply Array.ext_getElem?
 intro k
 rw [Zsi]
 by_cases R:k ∈ g/\k<base.tmps.size
 ·rw [if_pos R]
  have W:k<tm.size:=by omega
  simp [Act.eval,Array.getD_eq_getD_getElem?,W]
 ·rw [if_neg R]
  by_cases hz:k<base.tmps.size
  ·exact h3 k fun i p e=>by
    have:=List.all_eq_true.1 a6 i (List.mem_range.2 p)
    rw [e] at this
    exact R ⟨by simpa using this,hz⟩
  ·rw [Array.getElem?_eq_none (by omega),Array.getElem?_eq_none (by omega)]
end
