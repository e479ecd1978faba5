/- Whatever order a region draws: an invariant that each operation keeps. Facts about each operation's value, kept by whatever comes after it. -/
import Derived.Orders
import Derived.WalkKit
import Derived.Below
namespace Go.Proofs.YteddjlbfbpecjaaGreatDoor
section
open Go.RowKit
set_option linter.all false
section
variable {P:Program} {ops:Array Oper} {Q:Exit→Act→World→Prop} {md:Region.Mode}
def left (listed:Array Bool):Nat:=listed.toList.countP (fun b=>!b)
theorem Zys {listed:Array Bool} {i:Nat} (h:listed.getD i true=false):left (listed.setIfInBounds i true)+1=left listed:=by
 have hi:i<listed.size:=by
  rcases Nat.lt_or_ge i listed.size with h' | h'
  ·exact h'
  ·simp [Array.getD,Nat.not_lt.2 h'] at h
 have hv:listed.toList[i]'(by simpa using hi)=false:=by
  simpa [Array.getD,hi] using h
 unfold left
 rw [Array.toList_setIfInBounds,List.countP_set (by simpa using hi)]
 have hp:0<List.countP (fun b=>!b) listed.toList:=List.countP_pos_iff.2 ⟨_,List.getElem_mem (by simpa using hi),by simp [hv]⟩
 rw [hv]
 simp only [Bool.not_false,Bool.not_true,if_true,Bool.false_eq_true,if_false]
 omega
theorem Zvy {listed:Array Bool} (h:left listed=0) (i:Nat):listed.getD i true=true:=by
 rcases Nat.lt_or_ge i listed.size with h' | h'
 ·have:=List.countP_eq_zero.1 h (listed[i]) (by simp)
  simp [Array.getD,h']
  simpa using this
 ·simp [Array.getD,Nat.not_lt.2 h']
theorem Zp6 (n:Nat):left (Array.replicate n false)=n:=by
 unfold left
 rw [Array.toList_replicate]
 induction n with
 | zero=>rfl
 | succ n ih=>rw [List.replicate_succ,List.countP_cons,ih];simp
theorem Zmv (Inv:Array Bool→Act→World→Prop)
  (hstep:∀ listed a w i,Inv listed a w→i ∈ Region.ready md ops listed→wpOp P ops Q i (fun a' w'=>Inv (listed.setIfInBounds i true) a' w') a w)
  (hend:∀ listed a w,Inv listed a w→Region.ready md ops listed=[]→Q .normal a w) :
  ∀ fuel listed a w,left listed≤fuel→Inv listed a w→wpAny P md ops Q fuel listed a w:=by
 intro fuel
 induction fuel with
 | zero =>
  intro listed a w hl hI
  have hr:Region.ready md ops listed=[]:=by
   rw [List.eq_nil_iff_forall_not_mem]
   intro i hi
   have h1:=(mem_ready.1 hi).1
   rw [Zvy (by omega) i] at h1
   cases h1
  exact ⟨hr,hend _ _ _ hI hr⟩
 | succ fuel ih =>
  intro listed a w hl hI
  refine ⟨hend _ _ _ hI,fun i hi=>wpOp_mono (fun a' w' h=>ih _ _ _ ?_ h) (hstep _ _ _ i hI hi)⟩
  have:=Zys (mem_ready.1 hi).1
  omega
def Zu (ops:Array Oper) (i:Nat):Option Tmp:=(ops[i]?).bind (·.dst)
def val (ops:Array Oper) (a:Act) (i:Nat):Value:=match Zu ops i with | some d=>a.eval (.tmp d) | none=>undef
def Zk5 (md:Region.Mode) (ops:Array Oper) (n:Nat) (A:Nat→List Nat):Bool :=
 (List.range ops.size).all fun i =>
  match ops[i]? with
  | none=>false
  | some o =>
   (o.after.all fun e=>!Region.binds md e||decide (e.on<i)) &&
   (match o.dst with
    | none=>false
    | some d=>decide (d<n)&&(List.range i).all fun j=>Zu ops j != some d) &&
   (A i).all fun j=>o.after.any fun e=>Region.binds md e&&(e.on==j||(A e.on).contains j)
def Zae (ops:Array Oper) (base a:Act):Prop :=
 a.defers=base.defers∧a.tmps.size=base.tmps.size∧∀ k,(∀ i,i<ops.size→Zu ops i≠some k)→a.tmps[k]?=base.tmps[k]?
def Zak (P:Program) (ops:Array Oper) (Q:Exit→Act→World→Prop) (F:Nat→Value→World→Prop) (i:Nat) (a:Act) (w:World):Prop :=
 wpOp P ops Q i (fun a' w'=>∃ v,a'=a.put (Zu ops i) v∧F i v w'∧Below w.heap.size w w') a w
def Inv (ops:Array Oper) (A:Nat→List Nat) (F:Nat→Value→World→Prop) (base:Act) (w0:World) (listed:Array Bool) (a:Act) (w:World):Prop :=
 listed.size=ops.size∧Zae ops base a∧Below w0.heap.size w0 w ∧
 ∀ i,listed.getD i false=true→F i (val ops a i) w∧∀ j ∈ A i,listed.getD j false=true
def Zk6 (ops:Array Oper) (n:Nat) (A:Nat→List Nat):Prop :=
 ∀ i,i<ops.size→∃ o d,ops[i]?=some o∧o.dst=some d∧Zu ops i=some d∧d<n∧(∀ e ∈ o.after,Region.binds .any e=true→e.on<i) ∧
   (∀ j,j<i→Zu ops j≠some d)∧(∀ j ∈ A i,∃ e ∈ o.after,Region.binds .any e=true∧(e.on=j∨j ∈ A e.on))
theorem Zjr {n:Nat} {A:Nat→List Nat} (hok:Zk5 .any ops n A=true):Zk6 ops n A:=by
 intro i hi
 have h:=List.all_eq_true.1 hok i (List.mem_range.2 hi)
 have hoi:ops[i]?=some ops[i]:=by simp [hi]
 rw [hoi] at h
 simp only [Bool.and_eq_true] at h
 obtain ⟨⟨h1,h2⟩,h3⟩:=h
 cases hd:ops[i].dst with
 | none=>rw [hd] at h2;cases h2
 | some d =>
  rw [hd] at h2
  simp only [Bool.and_eq_true,decide_eq_true_eq] at h2
  refine ⟨_,d,hoi,hd,by simp [Zu,hoi,hd],h2.1,?_,?_,?_⟩
  ·intro e he hb
   have:=Array.all_eq_true_iff_forall_mem.1 h1 e he
   simpa [hb] using this
  ·intro j hj
   have:=List.all_eq_true.1 h2.2 j (List.mem_range.2 hj)
   simpa using this
  ·intro j hj
   have:=List.all_eq_true.1 h3 j hj
   obtain ⟨k,hk,h⟩:=Array.any_eq_true.1 this
   simp only [Bool.and_eq_true,Bool.or_eq_true,beq_iff_eq,List.contains_iff_mem] at h
   exact ⟨_,Array.getElem_mem hk,h.1,h.2⟩
theorem Zk7 {n:Nat} {A:Nat→List Nat} (hall:Zk6 ops n A):∀ i j,i<ops.size→j<ops.size→i≠j→Zu ops i≠Zu ops j:=by
 intro i j hi hj hne
 obtain ⟨o,d,_,_,hs,_,_,hb,_⟩:=hall i hi
 obtain ⟨o',d',_,_,hs',_,_,hb',_⟩:=hall j hj
 rw [hs,hs']
 intro h
 rcases Nat.lt_or_gt_of_ne hne with h' | h'
 ·exact hb' i h' (by rw [hs,h])
 ·exact hb j h' (by rw [hs',h])
theorem Zp7 {A:Nat→List Nat} {F:Nat→Value→World→Prop} {base:Act} {w0:World} (hall:Zk6 ops base.tmps.size A)
  (hmono:∀ i v w w',F i v w→Below w.heap.size w w'→F i v w')
  (hop:∀ i,i<ops.size→∀ a w,Zae ops base a→Below w0.heap.size w0 w→(∀ j ∈ A i,F j (val ops a j) w)→Zak P ops Q F i a w) :
  ∀ listed a w i,Inv ops A F base w0 listed a w→i ∈ Region.ready .any ops listed→wpOp P ops Q i (fun a' w'=>Inv ops A F base w0 (listed.setIfInBounds i true) a' w') a w:=by
 have hdist:=Zk7 hall
 rintro listed a w i ⟨hsz,hS,hB,hF⟩ hr
 obtain ⟨hun,o',ho',hedges⟩:=mem_ready.1 hr
 have hi:i<ops.size:=by
  rcases Nat.lt_or_ge i ops.size with h | h
  ·exact h
  ·rw [Array.getElem?_eq_none h] at ho';cases ho'
 obtain ⟨o,d,ho,hd,hs,hdn,_,_,hA⟩:=hall i hi
 have:o'=o:=by rw [ho] at ho';exact (Option.some.inj ho').symm
 subst this
 have hAl:∀ j ∈ A i,listed.getD j false=true:=by
  intro j hj
  obtain ⟨e,he,hb,hor⟩:=hA j hj
  have hl:=hedges e he hb
  rcases hor with rfl | h
  ·exact hl
  ·exact (hF _ hl).2 j h
 refine wpOp_mono ?_ (hop i hi a w hS hB fun j hj=>(hF j (hAl j hj)).1)
 rintro a' w' ⟨v,rfl,hFv,hb⟩
 have hput:∀ k,k≠d→(a.put (Zu ops i) v).tmps[k]?=a.tmps[k]?:=by
  intro k hk
  simp [hs,Act.put,Array.getElem?_setIfInBounds_ne (Ne.symm hk)]
 refine ⟨by simp [hsz],⟨by simp [hs,Act.put];exact hS.1,by simp [hs,Act.put];exact hS.2.1,fun k hk=>?_⟩,hB.trans (hb.mono hB.size),fun j hj=>?_⟩
 ·rw [hput k (fun h=>hk i hi (by rw [hs,h]))];exact hS.2.2 k hk
 ·by_cases hji:j=i
  ·subst hji
   have hv:val ops (a.put (Zu ops j) v) j=v:=by
    simp [val,hs,Act.put,Act.eval,Array.getD_eq_getD_getElem?,show d<a.tmps.size by rw [hS.2.1];exact hdn]
   refine ⟨by rw [hv];exact hFv,fun k hk=>?_⟩
   have:=hAl k hk
   by_cases hkj:j=k
   ·subst hkj;simp [Array.getD_eq_getD_getElem?,hsz,hi]
   ·simpa [Array.getD_eq_getD_getElem?,Array.getElem?_setIfInBounds_ne hkj] using this
  ·have hj':listed.getD j false=true:=by
    simpa [Array.getD_eq_getD_getElem?,Array.getElem?_setIfInBounds_ne (Ne.symm hji)] using hj
   have hjs:j<ops.size:=by
    rcases Nat.lt_or_ge j ops.size with h | h
    ·exact h
    ·simp [Array.getD,hsz,Nat.not_lt.2 h] at hj'
   have hv:val ops (a.put (Zu ops i) v) j=val ops a j:=by
    obtain ⟨_,d',_,_,hs',_⟩:=hall j hjs
    have hne:d'≠d:=fun h=>hdist j i hjs hi hji (by rw [hs',hs,h])
    simp [val,hs',Act.eval,Array.getD_eq_getD_getElem?,hput d' hne]
   refine ⟨by rw [hv];exact hmono _ _ _ _ (hF j hj').1 hb,fun k hk=>?_⟩
   have:=(hF j hj').2 k hk
   by_cases hki:i=k
   ·subst hki;simp [Array.getD_eq_getD_getElem?,hsz,hi]
   ·simpa [Array.getD_eq_getD_getElem?,Array.getElem?_setIfInBounds_ne hki] using this
theorem Zmw {A:Nat→List Nat} {F:Nat→Value→World→Prop} {base:Act} {w0 w:World} (hB:Below w0.heap.size w0 w):Inv ops A F base w0 (Array.replicate ops.size false) base w:=by
 refine ⟨by simp,⟨rfl,rfl,fun _ _=>rfl⟩,hB,?_⟩
 intro i hi
 rcases Nat.lt_or_ge i ops.size with h | h
 ·simp [Array.getD,h] at hi
 ·simp [Array.getD,Nat.not_lt.2 h] at hi
theorem Zgq {A:Nat→List Nat} {F:Nat→Value→World→Prop} {base:Act} {w0:World} {id:Nat}
  (hm:P.follows .mixedOrders=true)
  (hok:Zk5 .any ops base.tmps.size A=true)
  (hmono:∀ i v w w',F i v w→Below w.heap.size w w'→F i v w')
  (hop:∀ i,i<ops.size→∀ a w,Zae ops base a→Below w0.heap.size w0 w→(∀ j ∈ A i,F j (val ops a j) w)→Zak P ops Q F i a w)
  (hend:∀ a w,Zae ops base a→Below w0.heap.size w0 w→(∀ i,i<ops.size→F i (val ops a i) w)→Q .normal a w) :
  (Code.region id ops true).wp P Q base w0:=by
 have hall:=Zjr hok
 refine wp_region_any hm (Zmv (Inv ops A F base w0) (Zp7 hall hmono hop) ?_ _ _ _ _ (by rw [Zp6];exact Nat.le_refl _) (Zmw (Below.refl _ w0).drew))
 rintro listed a w ⟨hsz,hS,hB,hF⟩ hr
 have hlist:∀ i,i<ops.size→listed.getD i false=true:=by
  intro i
  induction i using Nat.strongRecOn with
  | _ i ih =>
   intro hi
   obtain ⟨o,d,ho,hd,hs,hdn,hlt,_,_⟩:=hall i hi
   by_cases h:listed.getD i true=true
   ·simpa [Array.getD,hsz,hi] using h
   ·have hf:listed.getD i true=false:=by simpa using h
    have:i ∈ Region.ready .any ops listed:=mem_ready.2 ⟨hf,o,ho,fun e he hb=>ih _ (hlt e he hb) (Nat.lt_trans (hlt e he hb) hi)⟩
    rw [hr] at this;cases this
 exact hend a w hS hB fun i hi=>(hF i (hlist i hi)).1
theorem Zvz {A:Nat→List Nat} {F:Nat→Value→World→Prop} {base:Act} {w0:World} (hall:Zk6 ops base.tmps.size A)
  (hmono:∀ i v w w',F i v w→Below w.heap.size w w'→F i v w')
  (hop:∀ i,i<ops.size→∀ a w,Zae ops base a→Below w0.heap.size w0 w→(∀ j ∈ A i,F j (val ops a j) w)→Zak P ops Q F i a w)
  (hend:∀ a w,Zae ops base a→Below w0.heap.size w0 w→(∀ i,i<ops.size→F i (val ops a i) w)→Q .normal a w) :
  ∀ n k listed a w,k+n=ops.size→(∀ i,i<k→listed.getD i false=true)→(∀ i,k≤i→i<ops.size→listed.getD i true=false)→Inv ops A F base w0 listed a w→wpOps P ops Q (List.range' k n) a w:=by
 intro n
 induction n with
 | zero =>
  intro k listed a w hk h1 h2 ⟨hsz,hS,hB,hF⟩
  exact hend a w hS hB fun i hi=>(hF i (h1 i (by omega))).1
 | succ n ih =>
  intro k listed a w hk h1 h2 hI
  rw [List.range'_succ,wpOps_cons]
  have hki:k<ops.size:=by omega
  obtain ⟨o,d,ho,hd,hs,hdn,hlt,_,_⟩:=hall k hki
  have hr:k ∈ Region.ready .any ops listed:=mem_ready.2 ⟨h2 k (Nat.le_refl _) hki,o,ho,fun e he hb=>h1 _ (hlt e he hb)⟩
  refine wpOp_mono (fun a' w' h=>ih (k+1) _ a' w' (by omega) ?_ ?_ h) (Zp7 hall hmono hop listed a w k hI hr)
  ·intro i hi
   by_cases hik:k=i
   ·subst hik;simp [Array.getD_eq_getD_getElem?,hI.1,hki]
   ·have:=h1 i (by omega)
    simpa [Array.getD_eq_getD_getElem?,Array.getElem?_setIfInBounds_ne hik] using this
  ·intro i hi his
   have:=h2 i (by omega) his
   simpa [Array.getD_eq_getD_getElem?,Array.getElem?_setIfInBounds_ne (show k≠i by omega)] using this
theorem Zoi {A:Nat→List Nat} {F:Nat→Value→World→Prop} {base:Act} {w0:World} {id:Nat}
  (hok:Zk5 .any ops base.tmps.size A=true)
  (hmono:∀ i v w w',F i v w→Below w.heap.size w w'→F i v w')
  (hop:∀ i,i<ops.size→∀ a w,Zae ops base a→Below w0.heap.size w0 w→(∀ j ∈ A i,F j (val ops a j) w)→Zak P ops Q F i a w)
  (hend:∀ a w,Zae ops base a→Below w0.heap.size w0 w→(∀ i,i<ops.size→F i (val ops a i) w)→Q .normal a w) :
  (Code.region id ops false).wp P Q base w0:=by
 refine wp_region ?_
 rw [List.range_eq_range']
 exact Zvz (Zjr hok) hmono hop hend _ 0 _ _ _ (by omega) (fun i hi=>by omega) (fun i _ hi=>by simp [Array.getD,hi]) (Zmw (Below.refl _ w0))
theorem Zoj {a:Act} {g:Nat} {b:Bool} (h:val ops a g=.bool b):yielded ops a.tmps g=some b:=by
 unfold val Zu at h
 unfold yielded
 cases hg:(ops[g]?).bind (·.dst) with
 | none=>rw [hg] at h;cases h
 | some d =>
  rw [hg] at h
  simp only [Act.eval,Array.getD_eq_getD_getElem?] at h
  cases ht:a.tmps[d]? with
  | none=>rw [ht] at h;cases h
  | some v=>rw [ht] at h;simp only [Option.getD_some] at h;subst h;simp [ht]
variable {F:Nat→Value→World→Prop}
theorem Zn {o:Oper} {y:Nat→Option Bool} (h:o.guard=none):Region.wanted o y=true:=by simp [Region.wanted,h]
theorem Zk8 {o:Oper} {a:Act} {g:Nat} {b want:Bool} (h:o.guard=some (g,want)) (hv:val ops a g=.bool b):Region.wanted o (yielded ops a.tmps)=(b==want):=by
 simp only [Region.wanted,h,Zoj hv]
 cases b<;>cases want<;>rfl
theorem Ja9 {o:Oper} {a:Act} {g:Nat} {b:Bool} (h:o.guard=some (g,b)) (hv:val ops a g=.bool b):Region.wanted o (yielded ops a.tmps)=true:=by
 rw [Zk8 h hv];simp
theorem Ze {i:Nat} {o:Oper} {a:Act} {w w':World} {v:Value} (ho:ops[i]?=some o) (hw:Region.wanted o (yielded ops a.tmps)=true)
  (hr:(execOp a.eval o).run P w=.ok (.value v) w') (hF:F i v w') (hb:Below w.heap.size w w'):Zak P ops Q F i a w:=by
 unfold Zak wpOp
 simp only [ho,hw,if_true]
 refine .inl ?_
 unfold Oper.wp
 rw [hr,Oper.upon_value]
 exact ⟨v,by simp [Zu,ho],hF,hb⟩
theorem Zcd {i:Nat} {o:Oper} {a:Act} {w:World} {f:FuncId} {args:Array Value} (ho:ops[i]?=some o) (hw:Region.wanted o (yielded ops a.tmps)=true)
  (hr:(execOp a.eval o).run P w=.ok (.enter f args) w) (hc:Calls P f args w fun e w'=>∃ v,e=.returned v∧F i v w'∧Below w.heap.size w w'):Zak P ops Q F i a w:=by
 unfold Zak wpOp
 simp only [ho,hw,if_true]
 refine .inl ?_
 unfold Oper.wp
 rw [hr,Oper.upon_enter]
 refine hc.mono ?_
 rintro e w' ⟨v,rfl,hF,hb⟩
 exact ⟨v,by simp [Zu,ho],hF,hb⟩
theorem Zo {i:Nat} {o:Oper} {a:Act} {w:World} (ho:ops[i]?=some o) (hw:Region.wanted o (yielded ops a.tmps)=false) (hF:F i undef w):Zak P ops Q F i a w:=by
 unfold Zak wpOp
 simp only [ho,hw]
 exact ⟨undef,by simp [Zu,ho],hF,Below.refl _ _⟩
end
def Zb6 (id:Nat):Code→Option (Array Oper)
 | .region j ops _=>if j=id then some ops else none
 | .seq a b=>match Zb6 id a with | some x=>some x | none=>Zb6 id b
 | .cond _ a b=>match Zb6 id a with | some x=>some x | none=>Zb6 id b
 | .block _ b=>Zb6 id b
 | .loop b=>Zb6 id b
 | .scope b=>Zb6 id b
 | .rangeFunc _ _ a b=>match Zb6 id a with | some x=>some x | none=>Zb6 id b
 | _=>none
def Jg (f:Func) (id:Nat):Array Oper:=(f.body.bind (Zb6 id)).getD #[]
def eqv (x:Value):Value→World→Prop:=fun v _=>v=x
def laid (zs:List Int):Value→World→Prop:=fun v w=>∃ t,v=.slice (some ⟨t,0,none⟩) zs.length zs.length∧t<w.heap.size∧∀ j,j<zs.length→w.cell? ⟨t,j,none⟩=some (.int .i64 (zs.getD j 0))
def Zbv (p:Value→World→Prop):Prop:=∀ v w w',p v w→Below w.heap.size w w'→p v w'
theorem Jb (x:Value):Zbv (eqv x):=fun _ _ _ h _=>h
theorem Zdu (zs:List Int):Zbv (laid zs):=fun _ _ _ ⟨t,h1,h2,h3⟩ hb=>⟨t,h1,Nat.lt_of_lt_of_le h2 hb.size,fun j hj=>(hb.cell (p:=⟨t,j,none⟩) h2).trans (h3 j hj)⟩
def Zf (fs:List (Value→World→Prop)) (i:Nat):Value→World→Prop:=fs.getD i (fun _ _=>True)
theorem Jd {fs:List (Value→World→Prop)} (h:∀ p ∈ fs,Zbv p) (i:Nat) (v:Value) (w w':World) (hf:Zf fs i v w) (hb:Below w.heap.size w w'):Zf fs i v w':=by
 unfold Zf at *
 rw [List.getD_eq_getElem?_getD] at *
 cases hi:fs[i]? with
 | none=>trivial
 | some p=>rw [hi] at hf;exact h p (List.mem_of_getElem? hi) v w w' hf hb
theorem Zjs {ops:Array Oper} {j:Nat} {d:Tmp} {c:Act} (hs:Zu ops j=some d):val ops c j=c.eval (.tmp d):=by unfold val;rw [hs]
theorem Je {ops:Array Oper} {F:Nat→Value→World→Prop} {j:Nat} {d:Tmp} {c:Act} {w:World} {p:Value→World→Prop} (hs:Zu ops j=some d) (hp:F j=p) (h:F j (val ops c j) w):p (c.eval (.tmp d)) w:=by
 rw [← hp];rwa [Zjs hs] at h
def Zv0 (ops:Array Oper) (k:Nat):Bool:=(List.range ops.size).all fun i=>Zu ops i != some k
theorem Zc {ops:Array Oper} {base c:Act} {k:Tmp} (h:Zae ops base c) (hk:Zv0 ops k=true):c.eval (.tmp k)=base.eval (.tmp k):=by
 have:=h.2.2 k (fun i hi=>by have:=List.all_eq_true.1 hk i (List.mem_range.2 hi);simpa using this)
 simp only [Act.eval,Array.getD_eq_getD_getElem?,this]
def gv (b:Bool) (v:Value):Value:=bif b then v else undef
theorem Zv1 {ops:Array Oper} {o:Oper} {a:Act} {g:Nat} {b x want:Bool} (h:o.guard=some (g,want)) (hv:val ops a g=gv b (.bool x)):Region.wanted o (yielded ops a.tmps)=(b&&(x==want)):=by
 cases b
 ·simp only [Region.wanted,h]
  have:yielded ops a.tmps g=none:=by
   unfold val Zu at hv
   unfold yielded
   cases hg:(ops[g]?).bind (·.dst) with
   | none=>rfl
   | some d =>
    rw [hg] at hv
    simp only [Act.eval,Array.getD_eq_getD_getElem?] at hv
    simp only [Option.bind_some]
    cases ht:a.tmps[d]? with
    | none=>rfl
    | some v=>rw [ht] at hv;simp only [Option.getD_some] at hv;subst hv;rfl
  rw [this];simp
 ·rw [Zk8 h (show val ops a g=.bool x from hv)];simp
theorem Zk9 {ops:Array Oper} {base c:Act} (h:Zae ops base c):c=⟨((List.range base.tmps.size).map fun k=>if Zv0 ops k then base.eval (.tmp k) else c.eval (.tmp k)).toArray,base.defers⟩:=by
 obtain ⟨tm,df⟩:=c
 obtain ⟨h1,h2,h3⟩:=h
 simp only at h1 h2 h3
 subst h1
 congr 1
 apply Array.ext
 ·simp [h2]
 ·intro i hi1 hi2
  simp only [List.getElem_toArray,List.getElem_map,List.getElem_range]
  split
  ·rename_i ho
   have:=h3 i (fun j hj=>by have:=List.all_eq_true.1 ho j (List.mem_range.2 hj);simpa using this)
   have hb:i<base.tmps.size:=by omega
   simp only [Act.eval,Array.getD_eq_getD_getElem?,← this]
   simp [hi1]
  ·simp [Act.eval,Array.getD_eq_getD_getElem?,hi1]
theorem Zj {p:Nat→Prop}:∀ i,i<0→p i:=fun _ h=>absurd h (Nat.not_lt_zero _)
theorem Zd {p:Nat→Prop} {n:Nat} (h:∀ i,i<n→p i) (hn:p n):∀ i,i<n+1→p i:=fun i hi=>by
 rcases Nat.lt_or_eq_of_le (Nat.le_of_lt_succ hi) with h' | rfl
 ·exact h i h'
 ·exact hn
theorem evc (c:Act):∀ v,c.eval (.const v)=v:=fun _=>rfl
theorem evf (c:Act):∀ f,c.eval (.func f)=.func (.func f) #[] #[]:=fun _=>rfl
theorem Zi {ops:Array Oper} {F:Nat→Value→World→Prop} {j:Nat} {d:Tmp} {c:Act} {w:World} {V:Value} (hs:Zu ops j=some d) (hp:F j=eqv V) (h:F j (val ops c j) w):c.eval (.tmp d)=V:=Je (p:=eqv V) hs hp h
theorem wgv {R ops:Array Oper} {i:Nat} {o:Oper} {a:Act} {g:Nat} {b x want:Bool} (ho:R[i]?=some o) (h:o.guard=some (g,want)) (hv:val ops a g=gv b (.bool x)):Region.wanted o (yielded ops a.tmps)=(b&&(x==want)):=Zv1 h hv
end
section
open Go.RowKit
set_option linter.all false
def upd {α:Type} (f:Nat→α) (i:Nat) (x:α):Nat→α:=fun j=>if j=i then x else f j
theorem Zbu {α:Type} (f:Nat→α) (i:Nat) (x:α):upd f i x i=x:=by simp [upd]
theorem Zai {α:Type} (f:Nat→α) {i j:Nat} (x:α) (h:j≠i):upd f i x j=f j:=by simp [upd,h]
section
variable {P:Program} {ops:Array Oper} {Q:Exit→Act→World→Prop}
def Zf1 (ops:Array Oper) (n:Nat) (A:Nat→List Nat):Bool :=
 (List.range ops.size).all fun i =>
  match ops[i]? with
  | none=>false
  | some o =>
   (o.after.all fun e=>!Region.binds .any e||decide (e.on<i)) &&
   (match o.dst with
    | none=>true
    | some d=>decide (d<n)&&(List.range i).all fun j=>Zu ops j != some d) &&
   (A i).all fun j=>o.after.any fun e=>Region.binds .any e&&(e.on==j||(A e.on).contains j)
def Laid (ops:Array Oper) (n:Nat) (A:Nat→List Nat):Prop :=
 ∀ i,i<ops.size→∃ o,ops[i]?=some o∧Zu ops i=o.dst∧(∀ d,o.dst=some d→d<n)∧(∀ e ∈ o.after,Region.binds .any e=true→e.on<i) ∧
   (∀ j d,j<i→o.dst=some d→Zu ops j≠some d)∧(∀ j ∈ A i,∃ e ∈ o.after,Region.binds .any e=true∧(e.on=j∨j ∈ A e.on))
theorem Zds {n:Nat} {A:Nat→List Nat} (hok:Zf1 ops n A=true):Laid ops n A:=by
 intro i hi
 have h:=List.all_eq_true.1 hok i (List.mem_range.2 hi)
 have hoi:ops[i]?=some ops[i]:=by simp [hi]
 rw [hoi] at h
 simp only [Bool.and_eq_true] at h
 obtain ⟨⟨h1,h2⟩,h3⟩:=h
 refine ⟨_,hoi,by simp [Zu,hoi],?_,?_,?_,?_⟩
 ·intro d hd
  rw [hd] at h2
  simp only [Bool.and_eq_true,decide_eq_true_eq] at h2
  exact h2.1
 ·intro e he hb
  have:=Array.all_eq_true_iff_forall_mem.1 h1 e he
  simpa [hb] using this
 ·intro j d hj hd
  rw [hd] at h2
  simp only [Bool.and_eq_true,decide_eq_true_eq] at h2
  have:=List.all_eq_true.1 h2.2 j (List.mem_range.2 hj)
  simpa using this
 ·intro j hj
  have:=List.all_eq_true.1 h3 j hj
  obtain ⟨k,hk,h⟩:=Array.any_eq_true.1 this
  simp only [Bool.and_eq_true,Bool.or_eq_true,beq_iff_eq,List.contains_iff_mem] at h
  exact ⟨_,Array.getElem_mem hk,h.1,h.2⟩
def Jg0 (ops:Array Oper) (A:Nat→List Nat) (G:Nat→Value→Prop) (S:(Nat→Bool)→(Nat→Value)→World→Prop) (base:Act) (listed:Array Bool) (a:Act) (w:World):Prop :=
 listed.size=ops.size∧Zae ops base a∧S (fun j=>listed.getD j false) (val ops a) w∧∀ i,listed.getD i false=true→G i (val ops a i)∧∀ j ∈ A i,listed.getD j false=true
def Jc6 (P:Program) (ops:Array Oper) (Q:Exit→Act→World→Prop) (G:Nat→Value→Prop) (S:(Nat→Bool)→(Nat→Value)→World→Prop) (i:Nat) (l:Nat→Bool) (a:Act) (w:World):Prop :=
 wpOp P ops Q i (fun a' w'=>∃ v,a'=a.put (Zu ops i) v∧G i (val ops a' i)∧S (upd l i true) (upd (val ops a) i (val ops a' i)) w') a w
theorem Zfg {A:Nat→List Nat} {G:Nat→Value→Prop} {S:(Nat→Bool)→(Nat→Value)→World→Prop} {base:Act} {w0:World} {id:Nat}
  (hm:P.follows .mixedOrders=true) (hok:Zf1 ops base.tmps.size A=true)
  (hstart:S (fun _=>false) (val ops base) w0.drew)
  (hop:∀ i,i<ops.size→∀ l a w,Zae ops base a→l i=false→(∀ k,l k=true→∀ j ∈ A k,l j=true)→(∀ j ∈ A i,l j=true∧G j (val ops a j))→S l (val ops a) w→Jc6 P ops Q G S i l a w)
  (hend:∀ l a w,Zae ops base a→(∀ i,i<ops.size→l i=true∧G i (val ops a i))→S l (val ops a) w→Q .normal a w) :
  (Code.region id ops true).wp P Q base w0:=by
 have hall:=Zds hok
 have hput:∀ i,i<ops.size→∀ (a:Act) (v:Value) (j:Nat),j≠i→val ops (a.put (Zu ops i) v) j=val ops a j:=by
  intro i hi a v j hji
  unfold val
  cases hj:Zu ops j with
  | none=>rfl
  | some d =>
   have hne:∀ d',Zu ops i=some d'→d'≠d:=by
    intro d' hd' e
    subst e
    have hjs:j<ops.size:=by
     rcases Nat.lt_or_ge j ops.size with h | h
     ·exact h
     ·unfold Zu at hj;rw [Array.getElem?_eq_none h] at hj;cases hj
    obtain ⟨o,_,hs,_,_,hb,_⟩:=hall i hi
    obtain ⟨o',_,hs',_,_,hb',_⟩:=hall j hjs
    rcases Nat.lt_or_gt_of_ne hji with h | h
    ·exact hb j d' h (hs▸hd') hj
    ·exact hb' i d' h (hs'▸hj) hd'
   cases hi':Zu ops i with
   | none=>simp [Act.put]
   | some d'=>simp [Act.put,Act.eval,Array.getD_eq_getD_getElem?,Array.getElem?_setIfInBounds_ne (hne d' hi')]
 refine wp_region_any hm (Zmv (Jg0 ops A G S base) ?_ ?_ _ _ _ _ (by rw [Zp6];exact Nat.le_refl _) ⟨by simp,⟨rfl,rfl,fun _ _=>rfl⟩,?_,?_⟩)
 ·rintro listed a w i ⟨hsz,hS,hSt,hF⟩ hr
  obtain ⟨hun,o',ho',hedges⟩:=mem_ready.1 hr
  have hi:i<ops.size:=by
   rcases Nat.lt_or_ge i ops.size with h | h
   ·exact h
   ·rw [Array.getElem?_eq_none h] at ho';cases ho'
  obtain ⟨o,ho,hs,hdn,_,_,hA⟩:=hall i hi
  have:o'=o:=by rw [ho] at ho';exact (Option.some.inj ho').symm
  subst this
  have hli:listed.getD i false=false:=by simpa [Array.getD,hsz,hi] using hun
  have hAl:∀ j ∈ A i,listed.getD j false=true:=by
   intro j hj
   obtain ⟨e,he,hb,hor⟩:=hA j hj
   have hl:=hedges e he hb
   rcases hor with rfl | h
   ·exact hl
   ·exact (hF _ hl).2 j h
  refine wpOp_mono ?_ (hop i hi (fun j=>listed.getD j false) a w hS hli (fun k hk=>(hF k hk).2) (fun j hj=>⟨hAl j hj,(hF j (hAl j hj)).1⟩) hSt)
  rintro a' w' ⟨v,rfl,hG,hS'⟩
  have hl':(fun j=>(listed.setIfInBounds i true).getD j false)=upd (fun j=>listed.getD j false) i true:=by
   funext j
   by_cases hji:j=i
   ·subst hji;rw [Zbu];simp [Array.getD_eq_getD_getElem?,hsz,hi]
   ·rw [Zai _ _ hji];simp [Array.getD_eq_getD_getElem?,Array.getElem?_setIfInBounds_ne (Ne.symm hji)]
  have hv':val ops (a.put (Zu ops i) v)=upd (val ops a) i (val ops (a.put (Zu ops i) v) i):=by
   funext j
   by_cases hji:j=i
   ·subst hji;rw [Zbu]
   ·rw [Zai _ _ hji];exact hput i hi a v j hji
  refine ⟨by simp [hsz],⟨?_,?_,fun k hk=>?_⟩,?_,fun j hj=>?_⟩
  ·cases Zu ops i<;>simp [Act.put]<;>exact hS.1
  ·cases Zu ops i<;>simp [Act.put]<;>exact hS.2.1
  ·have hne:=hk i hi
   cases hsi:Zu ops i with
   | none=>simp [Act.put];exact hS.2.2 k hk
   | some d =>
    have:d≠k:=fun e=>hne (by rw [hsi,e])
    simp only [Act.put,Array.getElem?_setIfInBounds_ne this]
    exact hS.2.2 k hk
  ·rw [hl',hv'];exact hS'
  ·by_cases hji:j=i
   ·subst hji
    refine ⟨hG,fun k hk=>?_⟩
    have:=hAl k hk
    by_cases hkj:k=j
    ·subst hkj;rw [hli] at this;cases this
    ·simpa [Array.getD_eq_getD_getElem?,Array.getElem?_setIfInBounds_ne (Ne.symm hkj)] using this
   ·have hj':listed.getD j false=true:=by
     simpa [Array.getD_eq_getD_getElem?,Array.getElem?_setIfInBounds_ne (Ne.symm hji)] using hj
    refine ⟨by rw [hput i hi a v j hji];exact (hF j hj').1,fun k hk=>?_⟩
    have:=(hF j hj').2 k hk
    by_cases hki:k=i
    ·subst hki;rw [hli] at this;cases this
    ·simpa [Array.getD_eq_getD_getElem?,Array.getElem?_setIfInBounds_ne (Ne.symm hki)] using this
 ·rintro listed a w ⟨hsz,hS,hSt,hF⟩ hr
  have hlist:∀ i,i<ops.size→listed.getD i false=true:=by
   intro i
   induction i using Nat.strongRecOn with
   | _ i ih =>
    intro hi
    obtain ⟨o,ho,hs,hdn,hlt,_,_⟩:=hall i hi
    by_cases h:listed.getD i true=true
    ·simpa [Array.getD,hsz,hi] using h
    ·have hf:listed.getD i true=false:=by simpa using h
     have:i ∈ Region.ready .any ops listed:=mem_ready.2 ⟨hf,o,ho,fun e he hb=>ih _ (hlt e he hb) (Nat.lt_trans (hlt e he hb) hi)⟩
     rw [hr] at this;cases this
  exact hend (fun j=>listed.getD j false) a w hS (fun i hi=>⟨hlist i hi,(hF i (hlist i hi)).1⟩) hSt
 ·have e:(fun j=>(Array.replicate ops.size false).getD j false)=fun _=>false:=by
   funext j
   rcases Nat.lt_or_ge j ops.size with h | h
   ·simp [Array.getD,h]
   ·simp [Array.getD,Nat.not_lt.2 h]
  rw [e];exact hstart
 ·intro i hi
  rcases Nat.lt_or_ge i ops.size with h | h
  ·simp [Array.getD,h] at hi
  ·simp [Array.getD,Nat.not_lt.2 h] at hi
variable {G:Nat→Value→Prop} {S:(Nat→Bool)→(Nat→Value)→World→Prop} {l:Nat→Bool}
theorem Zkt {i:Nat} {o:Oper} {a:Act} {d:Tmp} (ho:ops[i]?=some o) (hd:o.dst=some d) (hn:d<a.tmps.size) (v:Value):val ops (a.put (Zu ops i) v) i=v:=by
 have hs:Zu ops i=some d:=by simp [Zu,ho,hd]
 simp [val,hs,Act.put,Act.eval,Array.getD_eq_getD_getElem?,hn]
end
end
section
open Go.RowKit
set_option linter.all false
variable {P:Program} {ops:Array Oper} {Q:Exit→Act→World→Prop}
theorem Zoe {base a b:Act} (ha:Zae ops base a) (hb:Zae ops base b) (h:∀ i,i<ops.size→val ops a i=val ops b i):a=b:=by
 obtain ⟨d1,s1,o1⟩:=ha
 obtain ⟨d2,s2,o2⟩:=hb
 have ht:a.tmps=b.tmps:=by
  apply Array.ext (by rw [s1,s2])
  intro t h1 h2
  by_cases hs:∃ i,i<ops.size∧Zu ops i=some t
  ·obtain ⟨i,hi,hsl⟩:=hs
   have:=h i hi
   rw [Zjs hsl,Zjs hsl] at this
   simpa [Act.eval,Array.getD_eq_getD_getElem?,h1,h2] using this
  ·have hs':∀ i,i<ops.size→Zu ops i≠some t:=fun i hi e=>hs ⟨i,hi,e⟩
   have:=(o1 t hs').trans (o2 t hs').symm
   simpa [h1,h2] using this
 cases a;cases b
 simp only at ht d1 d2
 subst ht
 rw [d1,d2]
theorem Zb3 {A:Nat→List Nat} {F:Nat→Value→World→Prop} {base:Act} {w0:World} {id:Nat} (k:Nat) (hk:k+1=ops.size) (hkn:Zu ops k=none)
  (hm:P.follows .mixedOrders=true) (hok:Zf1 ops base.tmps.size A=true) (hdst:∀ i,i<k→∃ d,Zu ops i=some d) (hAk:∀ i,i<k→i ∈ A k)
  (hmono:∀ i v w w',F i v w→Below w.heap.size w w'→F i v w')
  (hop:∀ i,i<k→∀ a w,Zae ops base a→Below w0.heap.size w0 w→(∀ j ∈ A i,F j (val ops a j) w)→Zak P ops Q F i a w)
  (hlast:∀ a w,Zae ops base a→Below w0.heap.size w0 w→(∀ i,i<k→F i (val ops a i) w)→wpOp P ops Q k (fun a' w'=>(∃ v,a'=a.put (Zu ops k) v)∧Q .normal a w') a w) :
  (Code.region id ops true).wp P Q base w0:=by
 refine Zfg (A:=A) (G:=fun _ _=>True) (S:=fun l vs w=>(l k=false→Below w0.heap.size w0 w∧∀ i,l i=true→i<ops.size→F i (vs i) w)∧(l k=true→∀ b,Zae ops base b→(∀ i,i<ops.size→i≠k→val ops b i=vs i)→Q .normal b w)) hm hok ⟨fun _=>⟨(Below.refl _ _).drew,fun i h=>(by cases h)⟩,fun h=>(by cases h)⟩ ?_ ?_
 ·rintro i hi l a w hS hli hcl hA ⟨hF0,hK⟩
  have hlk:l k=false:=by
   cases h:l k with
   | false=>rfl
   | true =>
    by_cases e:i=k
    ·rw [e,h] at hli;cases hli
    ·have:=hcl k h i (hAk i (by omega));rw [hli] at this;cases this
  obtain ⟨hB,hF⟩:=hF0 hlk
  by_cases e:i=k
  ·subst e
   refine wpOp_mono ?_ (hlast a w hS hB fun j hj=>hF j (hA j (hAk j hj)).1 (by omega))
   rintro a' w' ⟨⟨v,rfl⟩,hq⟩
   refine ⟨v,rfl,trivial,fun h=>?_,fun _ b hSb hv=>?_⟩
   ·rw [Zbu] at h;cases h
   ·have:b=a:=Zoe hSb hS fun j hj=>by
     by_cases ej:j=i
     ·subst ej;unfold val;rw [hkn]
     ·rw [hv j hj ej,Zai _ _ ej]
    rw [this];exact hq
  ·have hik:i<k:=by omega
   have hlt:∀ j ∈ A i,j<ops.size:=by
    have key:∀ n i,i<n→i<ops.size→∀ j ∈ A i,j<ops.size:=by
     intro n
     induction n with
     | zero=>intro i h;omega
     | succ n ih =>
      intro i h hi j hj
      obtain ⟨o,_,_,_,hlt,_,hAA⟩:=Zds hok i hi
      obtain ⟨e,he,hb,hor⟩:=hAA j hj
      have h1:=hlt e he hb
      rcases hor with rfl | h2
      ·omega
      ·exact ih e.on (by omega) (by omega) j h2
    exact key (i+1) i (by omega) hi
   refine wpOp_mono ?_ (hop i hik a w hS hB (fun j hj=>hF j (hA j hj).1 (hlt j hj)))
   rintro a' w' ⟨v,rfl,hFi,hb⟩
   obtain ⟨d,hd⟩:=hdst i hik
   obtain ⟨o,ho,hs,hdn,_,_,_⟩:=Zds hok i hi
   have hsz:d<a.tmps.size:=by rw [hS.2.1];exact hdn d (hs▸hd)
   have hv:=Zkt ho (hs▸hd:o.dst=some d) hsz v
   refine ⟨v,rfl,trivial,fun h=>⟨hB.trans (hb.mono hB.size),fun j hj hjs=>?_⟩,fun h=>?_⟩
   ·by_cases ej:j=i
    ·subst ej;rw [Zbu,hv];exact hFi
    ·rw [Zai _ _ ej] at hj ⊢
     exact hmono _ _ _ _ (hF j hj hjs) hb
   ·rw [Zai _ _ (Ne.symm e),hlk] at h;cases h
 ·rintro l a w hS hall ⟨hF,hK⟩
  exact hK (hall k (by omega)).1 a hS fun _ _ _=>rfl
theorem Za6 {k:Nat} {o:Oper} {a:Act} {w w':World} (ho:ops[k]?=some o) (hw:Region.wanted o (yielded ops a.tmps)=true)
  (hr:(execOp a.eval o).run P w=.ok .skip w') (hq:Q .normal a w'):wpOp P ops Q k (fun a' w'=>(∃ v,a'=a.put (Zu ops k) v)∧Q .normal a w') a w:=by
 unfold wpOp
 simp only [ho,hw,if_true]
 refine .inl ?_
 unfold Oper.wp
 rw [hr,Oper.upon_skip]
 exact ⟨⟨undef,by simp [Zu,ho]⟩,hq⟩
def Zvk (ops:Array Oper) (ds:List Nat):Bool:=(List.range ops.size).all fun i=>match Zu ops i with | some d=>ds.contains d | none=>true
theorem Zp2 {f:Nat→Value}:∀ (ds:List Nat) (T:Array Value) (k:Nat),(ds.foldl (fun t d=>t.setIfInBounds d (f d)) T)[k]?=if k ∈ ds∧k<T.size then some (f k) else T[k]?
 | [],T,k=>by simp
 | d::ds,T,k=>by
  rw [List.foldl_cons,Zp2 ds,Array.size_setIfInBounds]
  by_cases h1:k ∈ ds∧k<T.size
  ·rw [if_pos h1,if_pos ⟨List.mem_cons_of_mem _ h1.1,h1.2⟩]
  ·rw [if_neg h1]
   by_cases h2:k=d
   ·subst h2
    by_cases h3:k<T.size
    ·rw [if_pos ⟨List.mem_cons_self,h3⟩,Array.getElem?_setIfInBounds_self_of_lt h3]
    ·rw [if_neg (fun h=>h3 h.2)]
     rw [Array.getElem?_eq_none (by simpa using h3),Array.getElem?_eq_none (by simpa using h3)]
   ·rw [Array.getElem?_setIfInBounds_ne (Ne.symm h2)]
    rw [if_neg (fun h=>h1 ⟨(List.mem_cons.1 h.1).resolve_left h2,h.2⟩)]
theorem Zao {base c:Act} (h:Zae ops base c) (ds:List Nat) (hds:Zvk ops ds=true):c=⟨ds.foldl (fun t d=>t.setIfInBounds d (c.eval (.tmp d))) base.tmps,base.defers⟩:=by
 obtain ⟨tm,df⟩:=c
 obtain ⟨h1,h2,h3⟩:=h
 simp only at h1 h2 h3
 subst h1
 congr 1
 apply Array.ext_getElem?
 intro k
 rw [Zp2]
 by_cases hk:k ∈ ds∧k<base.tmps.size
 ·rw [if_pos hk]
  have hk':k<tm.size:=by omega
  simp [Act.eval,Array.getD_eq_getD_getElem?,hk']
 ·rw [if_neg hk]
  by_cases hz:k<base.tmps.size
  ·exact h3 k fun i hi e=>by
    have:=List.all_eq_true.1 hds i (List.mem_range.2 hi)
    rw [e] at this
    exact hk ⟨by simpa using this,hz⟩
  ·rw [Array.getElem?_eq_none (by omega),Array.getElem?_eq_none (by omega)]
end
