/- A region that draws its order is cut in two: its first operations are a region of their own, what is behind waits for them all. A graph's counts: the region of Count that draws its order. Rows and their cells: what is a turning of one is one of the other. What was counted, in order. -/
import Derived.Test.YthfilnflgahcjaaGreatDoorJoin7
import Derived.Test.YthfilnflgahcjaaGreatDoorFacts
import Derived.Test.YthfilnflgahcjaaGreatDoorJoin2
import Derived.Test.YthfilnflgahcjaaGreatDoorJoin4
import Derived.Test.YthfilnflgahcjaaGreatDoorJoin6
import Derived.Maps.RangeRun
namespace Go.Proofs.YthfilnflgahcjaaGreatDoor
open Go.RowKit
set_option linter.all false
section
variable {P:Program} {pre ops:Array Oper} {md:Region.Mode} {Q:Exit->Act->World->Prop} {N:Act->World->Prop} {k:Nat}
theorem Zo5 {o:Oper} {a:Act} {w:World} {K:Act->World->Prop} (h:o.wp P a w K (Exit.then N Q)):o.wp P a w K Q:=by
 unfold Oper.wp at *
 generalize (execOp a.eval o).run P w=r at *
 cases r with
 | ok n w'=>cases n<;>simp only [Oper.upon] at h |-<;>exact h
 | halt x w'=>cases x<;>simp only [Oper.upon] at h |-<;>exact h
theorem Zwg {o:Oper} {a:Act} {w:World} {K:Act->World->Prop} (h:o.wp P a w K Q):o.wp P a w K (Exit.then N Q):=by
 unfold Oper.wp at *
 generalize (execOp a.eval o).run P w=r at *
 cases r with
 | ok n w'=>cases n<;>simp only [Oper.upon] at h |-<;>exact h
 | halt x w'=>cases x<;>simp only [Oper.upon] at h |-<;>exact h
theorem Zs2 {N':Act->World->Prop} (hN:∀ a w,N a w->N' a w):∀ (fuel:Nat) (m:Array Bool) (a:Act) (w:World),wpAny P md ops (Exit.then N Q) fuel m a w->wpAny P md ops (Exit.then N' Q) fuel m a w
 | 0,_,a,w,h=>⟨h.1,hN a w h.2⟩
 | fuel+1,m,a,w,h=>⟨fun h0=>hN a w (h.1 h0),fun i c=>by
   have f:=wpOp_mono (Zs2 hN fuel _) (h.2 i c)
   unfold wpOp at f |-
   split
   ·rename_i D;simpa only [D] using f
   ·rename_i o D
    simp only [D] at f
    split
    ·rename_i hw
     rw [if_pos hw] at f
     rcases f with f | ⟨G,V⟩
     ·exact .inl (Zwg (Zo5 f))
     ·exact .inr ⟨G,V⟩
    ·rename_i hw
     rw [if_neg hw] at f
     exact f⟩
theorem Zno {l:Array Bool} {i:Nat} (h:i<l.size):l.getD i true=l.getD i false:=by simp [h]
theorem Zuv {lp:Array Bool} (h:left lp≠0):∃ i,i<lp.size/\lp.getD i false=false/\∀ j,j<i->lp.getD j false=true:=by
 have a9:∃ i,i<lp.size/\lp.getD i false=false:=by
  apply Classical.byContradiction
  intro hn
  apply h
  unfold left
  rw [List.countP_eq_zero]
  intro b hb
  obtain ⟨i,c,rfl⟩:=List.getElem_of_mem hb
  have a2:i<lp.size:=by simpa using c
  cases hv:lp[i] with
  | true=>simp [hv]
  | false=>exact absurd ⟨i,a2,by simp [a2,hv]⟩ hn
 obtain ⟨i,c⟩:=a9
 induction i using Nat.strongRecOn with
 | ind i ih =>
  by_cases t:∀ j,j<i->lp.getD j false=true
  ·exact ⟨i,c.1,c.2,t⟩
  ·obtain ⟨j,v⟩:=Classical.not_forall.1 t
   obtain ⟨a5,a8⟩:=Classical.not_imp.1 v
   exact ih j a5 ⟨by omega,by simpa using a8⟩
theorem Jc7 {n:Nat} (b3:pre.size=k) (B:∀ i,i<k->pre[i]?=ops[i]?) (hk:k<=ops.size)
  (hg:∀ i o,i<k->ops[i]?=some o->∀ g b,o.guard=some (g,b)->g<k)
  (W:∀ i o,i<k->ops[i]?=some o->∀ e ∈ o.after,Region.binds md e=true->e.on<i)
  (b0:∀ j,k<=j->j<ops.size->∀ i,i<k->Zip md ops ops.size j i=true) :
  ∀ (fuel:Nat) (lp l:Array Bool) (a:Act) (w:World),lp.size=k->Zdv md ops l->(∀ i,i<k->l.getD i false=lp.getD i false)->(∀ i,k<=i->l.getD i false=false)->left lp=fuel ->
   wpAny P md pre (Exit.then (fun a w=>Zdv md ops (Zb2 ops.size k)->wpAny P md ops Q n (Zb2 ops.size k) a w) Q) fuel lp a w->wpAny P md ops Q (n+fuel) l a w:=by
 intro fuel
 induction fuel with
 | zero =>
  intro lp l a w U d f O hf h
  have:l=Zb2 ops.size k:=by
   apply Array.ext
   ·rw [d.1];simp [Zb2]
   ·intro i c b1
    have b2:i<ops.size:=by rw [<- d.1];exact c
    have e1:l.getD i false=l[i]:=by simp [c]
    rw [<- e1]
    simp only [Zb2,List.getElem_toArray,List.getElem_map,List.getElem_range]
    by_cases s:i<k
    ·have u:=Zo8 hf i
     rw [Zno (by omega)] at u
     rw [f i s,u];simp [s]
    ·rw [O i (by omega)];simp [s]
  rw [this] at d |-
  exact h.2 d
 | succ fuel ih =>
  intro lp l a w U d f O hf h
  obtain ⟨i,c,R,a7⟩:=Zuv (lp:=lp) (by omega)
  have s:i<k:=by omega
  obtain ⟨oi,a4⟩:∃ o,ops[i]?=some o:=⟨_,Array.getElem?_eq_getElem (by omega)⟩
  have a0:i ∈ Region.ready md ops l:=mem_ready.2 ⟨by rw [Zno (by rw [d.1];omega),f i s];exact R,oi,a4,fun e he hb=>by
   have:=W i oi s a4 e he hb
   rw [f _ (by omega)];exact a7 _ this⟩
  refine ⟨fun h0=>(by rw [h0] at a0;cases a0),fun j v=>?_⟩
  obtain ⟨a3,I,y,t⟩:=mem_ready.1 v
  have C:j<ops.size:=(Array.getElem?_eq_some_iff.1 y).1
  have z:j<k:=by
   rcases Nat.lt_or_ge j k with h' | h'
   ·exact h'
   ·have:=Zd7 d ops.size j i (fun ok X e he hb=>by
     rw [y] at X
     obtain rfl:=Option.some.inj X
     exact t e he hb) (b0 j h' C i s)
    rw [f i s,R] at this;cases this
  have M:lp.getD j true=false:=by
   rw [Zno (by omega),<- f j z,<- Zno (by rw [d.1];exact C)];exact a3
  have a6:j ∈ Region.ready md pre lp:=mem_ready.2 ⟨M,I,(B j z).trans y,fun e he hb=>by
   have:=W j I z y e he hb
   rw [<- f _ (by omega)];exact t e he hb⟩
  have u:=h.2 j a6
  have a1:∀ E w',wpAny P md pre (Exit.then (fun a w=>Zdv md ops (Zb2 ops.size k)->wpAny P md ops Q n (Zb2 ops.size k) a w) Q) fuel (lp.setIfInBounds j true) E w'->wpAny P md ops Q (n+fuel) (l.setIfInBounds j true) E w':=fun E w' G=>by
   refine ih (lp.setIfInBounds j true) (l.setIfInBounds j true) E w' (by simpa using U) (Zca d v) (fun q hq=>?_) (fun q hq=>?_) (by have:=Zs5 M;omega) G
   ·by_cases hqj:j=q
    ·subst hqj
     have e1:j<l.size:=by rw [d.1];exact C
     have e2:j<lp.size:=by omega
     simp [e1,e2]
    ·rw [getD_set_ne false hqj,getD_set_ne false hqj];exact f q hq
   ·rw [getD_set_ne false (by omega)];exact O q hq
  unfold wpOp at u |-
  rw [B j z] at u
  simp only [y] at u |-
  have hw:Region.wanted I (yielded pre a.tmps)=Region.wanted I (yielded ops a.tmps):=by
   unfold Region.wanted
   cases H:I.guard with
   | none=>rfl
   | some gb =>
    obtain ⟨g,b⟩:=gb
    have:=hg j I z y g b H
    simp only [yielded,B g this]
  rw [hw] at u
  split
  ·rename_i hw1
   rw [if_pos hw1] at u
   rcases u with u | ⟨G,V⟩
   ·exact .inl (Oper.wp_mono a1 (Zo5 u))
   ·exact .inr ⟨G,V⟩
  ·rename_i hw1
   rw [if_neg hw1] at u
   exact a1 _ _ u
end
def Jiq (L:List Oper) (k:Nat) (T:List Nat):Bool :=
 Region.noSelect L.toArray&&(decide (k<=L.length)&&(((L.take k).zipIdx.all fun p=>(match p.1.guard with | none=>true | some (g,_)=>decide (g<k))&&p.1.after.all fun e=>!Region.binds .any e||decide (e.on<p.2)) &&
  (((List.range L.length).all fun j=>decide (j<k)||(List.range k).all fun i=>Zip .any L.toArray L.length j i)&&((T.all fun i=>(Zbn L i).isSome)&&((T.length+k==L.length)&&Zif .any L.toArray (fun _=>false) (T.map fun i=>(false,i)) (Zb2 L.length k))))))
theorem Jez {P:Program} {Q:Exit->Act->World->Prop} {id:Nat} {L:List Oper} {a:Act} {w:World} (k:Nat) (T:List Nat) (hm:P.follows .mixedOrders=true) (hB:Jiq L k T=true)
  (h:wpAny P .any (L.take k).toArray (Exit.then (fun E w'=>wpList P L.toArray Q (Zac L T) E w') Q) k (Array.replicate k false) a w.drew):(Code.region id L.toArray true).wp P Q a w:=by
 simp only [Jiq,Bool.and_eq_true,beq_iff_eq,decide_eq_true_eq] at hB
 obtain ⟨f,O,u,G,V,h6,h7⟩:=hB
 have S:∀ i o,i<k->L.toArray[i]?=some o->(o,i) ∈ (L.take k).zipIdx:=fun i o c D=>by
  rw [List.mem_zipIdx_iff_getElem?,List.getElem?_take,if_pos c]
  simpa using D
 have Y:Zdv .any L.toArray (Array.replicate L.length false):=⟨by simp,fun j I _ hl=>by
  rcases Nat.lt_or_ge j L.length with v | v
  ·simp [v] at hl
  ·simp [v] at hl⟩
 have F:=Jc7 (P:=P) (Q:=Q) (pre:=(L.take k).toArray) (ops:=L.toArray) (md:=.any) (k:=k) (n:=T.length) (by simp;omega) (fun i c=>by simp [List.getElem?_take,c]) (by simpa using O)
  (fun i o c D g b H=>by
   have:=List.all_eq_true.1 u _ (S i o c D)
   simp only [H,Bool.and_eq_true,decide_eq_true_eq] at this
   exact this.1)
  (fun i o c D e he hb=>by
   have:=List.all_eq_true.1 u _ (S i o c D)
   simp only [Bool.and_eq_true] at this
   have h8:=Array.all_eq_true'.1 this.2 e he
   simpa [hb] using h8)
  (fun j v C i c=>by
   have:=List.all_eq_true.1 G j (List.mem_range.2 (by simpa using C))
   simp only [Bool.or_eq_true,decide_eq_true_eq] at this
   have h8:=List.all_eq_true.1 (this.resolve_left (by omega)) i (List.mem_range.2 c)
   simpa using h8)
  k (Array.replicate k false) (Array.replicate L.length false) a w.drew (by simp) Y
  (fun i c=>by
   have:i<L.length:=by omega
   simp [c,this])
  (fun i c=>by
   rcases Nat.lt_or_ge i L.length with v | v
   ·simp [v]
   ·simp [v])
  (Zns k)
  (Zs2 (fun E w' hr d=>Zeq (keep:=fun _=>false) _ _ _ _ (by
   have:=Zcu (P:=P) (Q:=Q) f (T.map fun i=>(false,i)) _ E w' (by simpa using h7) d (Zkg T E w' (fun i c=>⟨rfl,List.all_eq_true.1 V i c⟩) hr)
   simpa using this)) _ _ _ _ h)
 refine wp_region_any hm ?_
 rw [h6] at F
 simpa using F
end Go.Proofs.YthfilnflgahcjaaGreatDoor

namespace Go.Proofs.YthfilnflgahcjaaGreatDoor
open Go.RowKit Go.Shelf Go.Maps
set_option linter.all false
attribute [local go_sem] Oper.semAt_some
section
variable {P:Program} {ops:Array Oper} {Q:Exit->Act->World->Prop}
theorem Zuu {A:Nat->List Nat} {F:Nat->Value->World->Prop} {base:Act} {w0:World}
  (H:Znt .any ops base.tmps.size A=true)
  (x:∀ i v w w',F i v w->Below w.heap.size w w'->F i v w')
  (I:∀ i,i<ops.size->∀ a w,Zl2 ops base a->Below w0.heap.size w0 w->(∀ j ∈ A i,F j (val ops a j) w)->Zwm P ops Q F i a w)
  (C:∀ a w,Zl2 ops base a->Below w0.heap.size w0 w->(∀ i,i<ops.size->F i (val ops a i) w)->Q .normal a w) :
  wpAny P .any ops Q ops.size (Array.replicate ops.size false) base { w0 with drawn:=w0.drawn+1 }:=by
 have E:=Zmi H
 refine Zo9 (Inv ops A F base w0) (Zs6 E x I) ?_ _ _ _ _ (by rw [Zns];exact Nat.le_refl _) (Zpa (Below.refl _ w0).drew)
 rintro m a w ⟨M,Y,hB,l⟩ hr
 have G:∀ i,i<ops.size->m.getD i false=true:=by
  intro i
  induction i using Nat.strongRecOn with
  | _ i ih =>
   intro y
   obtain ⟨o,d,k,hd,hs,a4,K,_,_⟩:=E i y
   by_cases h:m.getD i true=true
   ·simpa [Array.getD,M,y] using h
   ·have V:m.getD i true=false:=by simpa using h
    have:i ∈ Region.ready .any ops m:=mem_ready.2 ⟨V,o,k,fun e he hb=>ih _ (K e he hb) (Nat.lt_trans (K e he hb) y)⟩
    rw [hr] at this;cases this
 exact C a w Y hB fun i y=>(l i (G i y)).1
end
structure Sig where
 d:Nat
 op:Op
 ty:TypeId
 g:Option (Nat × Bool)
def Sig.oper (s:Sig) (pos:String) (t:Array Edge):Oper:=⟨some s.d,s.op,s.ty,pos,t,s.g⟩
def Jey (o:Oper):Option Sig:=o.dst.map fun d=>⟨d,o.op,o.type,o.guard⟩
def Zo4 (ops:Array Oper):List (Option Sig):=ops.toList.map Jey
section
variable {R:Array Oper}
theorem Zz {L:List Sig} (hL:Zo4 R=L.map some) {i:Nat} {s:Sig} (y:L[i]?=some s):∃ pos t,R[i]?=some (s.oper pos t):=by
 have B:(Zo4 R)[i]?=some (some s):=by rw [hL,List.getElem?_map,y];rfl
 unfold Zo4 at B
 rw [List.getElem?_map,Array.getElem?_toList] at B
 obtain ⟨o,k,u⟩:=Option.map_eq_some_iff.1 B
 obtain ⟨d,op,ty,pos,t,g⟩:=o
 unfold Jey at u
 cases d with
 | none=>cases u
 | some d =>
  simp only [Option.map_some,Option.some.injEq] at u
  subst u
  exact ⟨pos,t,k⟩
end
section
variable {w w':World} {b:Nat} {cs:Array Value} {ty:TypeId}
theorem Rec.z (h:Rec w b cs ty) (i:Nat):w.frozen? ⟨b,i,none⟩=false:=by simp [World.frozen?,show w.heap[b]?=_ from h]
theorem Rec.set (h:Rec w b cs ty) (i:Nat) (v:Value):Rec (w.setCell ⟨b,i,none⟩ v) b (cs.setIfInBounds i v) ty:=by
 have hl:=h.lt
 have e:w.heap[b]=.cells cs ty (0,0):=by
  have:=show w.heap[b]?=_ from h
  rw [Array.getElem?_eq_getElem hl] at this;exact Option.some.inj this
 unfold Rec
 simp [World.setCell,hl,Array.getElem_modify,e]
end
structure Put (X:Nat) (w w':World) (cs:Array Value) (ty:TypeId):Prop where
 r:Rec w' X cs ty
 other:∀ i,i≠X->w'.heap[i]?=w.heap[i]?
 size:w'.heap.size=w.heap.size
 below:Below X w w'
theorem Jm {X:Nat} {w w':World} {cs:Array Value} {ty:TypeId} (h:Put X w w' cs ty) (i:Nat) (v:Value):Put X w (w'.setCell ⟨X,i,none⟩ v) (cs.setIfInBounds i v) ty :=
 ⟨h.r.set i v,fun j N=>(Below.heap_setCell _ _ _ _ N).trans (h.other j N),by simp [World.setCell,h.size],h.below.setCell (Nat.le_refl _) _⟩
theorem Zev {X:Nat} {w:World} {cs:Array Value} {ty:TypeId} (h:Rec w X cs ty):Put X w w cs ty:=⟨h,fun _ _=>rfl,rfl,Below.refl _ _⟩
noncomputable def L11:List Oper:=(Ze0 Tryz.f11 3).toList
noncomputable def R11:Array Oper:=(L11.take 14).toArray
def S11:List Sig:=[⟨8,.fieldAddr 25 (.tmp 1) 0,0,none⟩,⟨9,.load 22 (.tmp 8),22,none⟩,⟨10,.call { callee:=.builtin .len,args:=#[.tmp 9],argTypes:=#[22] },3,none⟩,⟨11,.fieldAddr 25 (.tmp 1) 1,0,none⟩,⟨12,.load 23 (.tmp 11),23,none⟩,⟨13,.call { callee:=.builtin .len,args:=#[.tmp 12],argTypes:=#[23] },3,none⟩,⟨14,.load 25 (.tmp 1),25,none⟩,⟨15,.call { callee:=.value (.func 43),args:=#[.tmp 14],argTypes:=#[25] },28,none⟩,⟨16,.load 25 (.tmp 1),25,none⟩,⟨17,.call { callee:=.value (.func 44),args:=#[.tmp 16],argTypes:=#[25] },29,none⟩,⟨18,.load 25 (.tmp 1),25,none⟩,⟨19,.call { callee:=.value (.func 45),args:=#[.tmp 18],argTypes:=#[25] },30,none⟩,⟨20,.load 25 (.tmp 1),25,none⟩,⟨21,.call { callee:=.value (.func 46),args:=#[.tmp 20],argTypes:=#[25] },31,none⟩]
theorem Zd1:Zo4 R11=S11.map some:=by kernel_rfl
def Zzr (i:Nat):List Nat:=[[],[0],[1],[],[3],[4],[],[6],[],[8],[],[10],[],[12]].getD i []
section
variable (bx:Nat) (na:Option Addr) (l1 nc:Nat) (ra:Option Addr) (l2 rc:Nat) (nn nr:Int) (p0 p1 p2 p3:Value->World->Prop)
abbrev Zkc:Value:=.agg #[.slice na l1 nc,.slice ra l2 rc,.int .i64 nn,.int .i64 nr]
def Zkq:List (Value->World->Prop):=[eqv (.pointer (some ⟨bx,0,none⟩)),eqv (.slice na l1 nc),eqv (.int .i64 l1),eqv (.pointer (some ⟨bx,1,none⟩)),eqv (.slice ra l2 rc),eqv (.int .i64 l2),eqv (Zkc na l1 nc ra l2 rc nn nr),p0,eqv (Zkc na l1 nc ra l2 rc nn nr),p1,eqv (Zkc na l1 nc ra l2 rc nn nr),p2,eqv (Zkc na l1 nc ra l2 rc nn nr),p3]
structure Ji2 (w:World):Prop where
 c0:w.cell? ⟨bx,0,none⟩=some (.slice na l1 nc)
 c1:w.cell? ⟨bx,1,none⟩=some (.slice ra l2 rc)
 c2:w.cell? ⟨bx,2,none⟩=some (.int .i64 nn)
 c3:w.cell? ⟨bx,3,none⟩=some (.int .i64 nr)
 k0:Calls Tryz.prog 43 #[Zkc na l1 nc ra l2 rc nn nr] w fun e w'=>∃ v,e=.returned v/\p0 v w'/\Below w.heap.size w w'
 k1:Calls Tryz.prog 44 #[Zkc na l1 nc ra l2 rc nn nr] w fun e w'=>∃ v,e=.returned v/\p1 v w'/\Below w.heap.size w w'
 k2:Calls Tryz.prog 45 #[Zkc na l1 nc ra l2 rc nn nr] w fun e w'=>∃ v,e=.returned v/\p2 v w'/\Below w.heap.size w w'
 k3:Calls Tryz.prog 46 #[Zkc na l1 nc ra l2 rc nn nr] w fun e w'=>∃ v,e=.returned v/\p3 v w'/\Below w.heap.size w w'
set_option maxRecDepth 100000 in
theorem Jhi (Q:Exit->Act->World->Prop) (c:Act) (w:World) (e1:c.eval (.tmp 1)=.pointer (some ⟨bx,0,none⟩)) (U:l1<=9223372036854775807) (a6:l2<=9223372036854775807) (q:Ji2 bx na l1 nc ra l2 rc nn nr p0 p1 p2 p3 w) (i:Nat) (y:i<14) (l:∀ j ∈ Zzr i,Ze1 (Zkq bx na l1 nc ra l2 rc nn nr p0 p1 p2 p3) j (val R11 c j) w) :
  Zwm Tryz.prog R11 Q (Ze1 (Zkq bx na l1 nc ra l2 rc nn nr p0 p1 p2 p3)) i c w:=by
 have ec:∀ v,c.eval (.const v)=v:=fun _=>rfl
 have ef:∀ f,c.eval (.func f)=.func (.func f) #[] #[]:=fun _=>rfl
 have W:=q.c0
 have a0:=q.c1
 have a3:=q.c2
 have a2:=q.c3
 match i,y,l with
 | 0,_,l =>
  obtain ⟨pos,t,k⟩:=Zz Zd1 (i:=0) rfl
  refine Ze k (Zf rfl) (v:=.pointer (some ⟨bx,0,none⟩)) ?_ rfl (Below.refl _ _)
  dsimp only [Sig.oper]
  generalize c.eval=ρ at *
  clear l q k
  go_simp
 | 1,_,l =>
  obtain ⟨pos,t,k⟩:=Zz Zd1 (i:=1) rfl
  have e8:c.eval (.tmp 8)=.pointer (some ⟨bx,0,none⟩):=Zg (p:=eqv (.pointer (some ⟨bx,0,none⟩))) (by kernel_rfl) rfl (l 0 (by decide))
  refine Ze k (Zf rfl) (v:=.slice na l1 nc) ?_ rfl (Below.refl _ _)
  dsimp only [Sig.oper]
  generalize c.eval=ρ at *
  clear l q k
  go_simp
 | 2,_,l =>
  obtain ⟨pos,t,k⟩:=Zz Zd1 (i:=2) rfl
  have e9:c.eval (.tmp 9)=.slice na l1 nc:=Zg (p:=eqv (.slice na l1 nc)) (by kernel_rfl) rfl (l 1 (by decide))
  refine Ze k (Zf rfl) (v:=.int .i64 l1) ?_ rfl (Below.refl _ _)
  dsimp only [Sig.oper]
  generalize c.eval=ρ at *
  clear l q k
  go_simp
 | 3,_,l =>
  obtain ⟨pos,t,k⟩:=Zz Zd1 (i:=3) rfl
  refine Ze k (Zf rfl) (v:=.pointer (some ⟨bx,1,none⟩)) ?_ rfl (Below.refl _ _)
  dsimp only [Sig.oper]
  generalize c.eval=ρ at *
  clear l q k
  go_simp
 | 4,_,l =>
  obtain ⟨pos,t,k⟩:=Zz Zd1 (i:=4) rfl
  have a8:c.eval (.tmp 11)=.pointer (some ⟨bx,1,none⟩):=Zg (p:=eqv (.pointer (some ⟨bx,1,none⟩))) (by kernel_rfl) rfl (l 3 (by decide))
  refine Ze k (Zf rfl) (v:=.slice ra l2 rc) ?_ rfl (Below.refl _ _)
  dsimp only [Sig.oper]
  generalize c.eval=ρ at *
  clear l q k
  go_simp
 | 5,_,l =>
  obtain ⟨pos,t,k⟩:=Zz Zd1 (i:=5) rfl
  have a7:c.eval (.tmp 12)=.slice ra l2 rc:=Zg (p:=eqv (.slice ra l2 rc)) (by kernel_rfl) rfl (l 4 (by decide))
  refine Ze k (Zf rfl) (v:=.int .i64 l2) ?_ rfl (Below.refl _ _)
  dsimp only [Sig.oper]
  generalize c.eval=ρ at *
  clear l q k
  go_simp
 | 6,_,l =>
  obtain ⟨pos,t,k⟩:=Zz Zd1 (i:=6) rfl
  refine Ze k (Zf rfl) (v:=Zkc na l1 nc ra l2 rc nn nr) ?_ rfl (Below.refl _ _)
  dsimp only [Sig.oper]
  generalize c.eval=ρ at *
  clear l q k
  go_simp
 | 7,_,l =>
  obtain ⟨pos,t,k⟩:=Zz Zd1 (i:=7) rfl
  have T:c.eval (.tmp 14)=Zkc na l1 nc ra l2 rc nn nr:=Zg (p:=eqv (Zkc na l1 nc ra l2 rc nn nr)) (by kernel_rfl) rfl (l 6 (by decide))
  refine Zby k (Zf rfl) (f:=43) (args:=#[Zkc na l1 nc ra l2 rc nn nr]) ?_ (Calls.mono q.k0 fun e w' ⟨v,B,u,D⟩=>⟨v,B,u,D⟩)
  dsimp only [Sig.oper]
  generalize c.eval=ρ at *
  clear l q k
  go_simp
 | 8,_,l =>
  obtain ⟨pos,t,k⟩:=Zz Zd1 (i:=8) rfl
  refine Ze k (Zf rfl) (v:=Zkc na l1 nc ra l2 rc nn nr) ?_ rfl (Below.refl _ _)
  dsimp only [Sig.oper]
  generalize c.eval=ρ at *
  clear l q k
  go_simp
 | 9,_,l =>
  obtain ⟨pos,t,k⟩:=Zz Zd1 (i:=9) rfl
  have a5:c.eval (.tmp 16)=Zkc na l1 nc ra l2 rc nn nr:=Zg (p:=eqv (Zkc na l1 nc ra l2 rc nn nr)) (by kernel_rfl) rfl (l 8 (by decide))
  refine Zby k (Zf rfl) (f:=44) (args:=#[Zkc na l1 nc ra l2 rc nn nr]) ?_ (Calls.mono q.k1 fun e w' ⟨v,B,u,D⟩=>⟨v,B,u,D⟩)
  dsimp only [Sig.oper]
  generalize c.eval=ρ at *
  clear l q k
  go_simp
 | 10,_,l =>
  obtain ⟨pos,t,k⟩:=Zz Zd1 (i:=10) rfl
  refine Ze k (Zf rfl) (v:=Zkc na l1 nc ra l2 rc nn nr) ?_ rfl (Below.refl _ _)
  dsimp only [Sig.oper]
  generalize c.eval=ρ at *
  clear l q k
  go_simp
 | 11,_,l =>
  obtain ⟨pos,t,k⟩:=Zz Zd1 (i:=11) rfl
  have a1:c.eval (.tmp 18)=Zkc na l1 nc ra l2 rc nn nr:=Zg (p:=eqv (Zkc na l1 nc ra l2 rc nn nr)) (by kernel_rfl) rfl (l 10 (by decide))
  refine Zby k (Zf rfl) (f:=45) (args:=#[Zkc na l1 nc ra l2 rc nn nr]) ?_ (Calls.mono q.k2 fun e w' ⟨v,B,u,D⟩=>⟨v,B,u,D⟩)
  dsimp only [Sig.oper]
  generalize c.eval=ρ at *
  clear l q k
  go_simp
 | 12,_,l =>
  obtain ⟨pos,t,k⟩:=Zz Zd1 (i:=12) rfl
  refine Ze k (Zf rfl) (v:=Zkc na l1 nc ra l2 rc nn nr) ?_ rfl (Below.refl _ _)
  dsimp only [Sig.oper]
  generalize c.eval=ρ at *
  clear l q k
  go_simp
 | 13,_,l =>
  obtain ⟨pos,t,k⟩:=Zz Zd1 (i:=13) rfl
  have S:c.eval (.tmp 20)=Zkc na l1 nc ra l2 rc nn nr:=Zg (p:=eqv (Zkc na l1 nc ra l2 rc nn nr)) (by kernel_rfl) rfl (l 12 (by decide))
  refine Zby k (Zf rfl) (f:=46) (args:=#[Zkc na l1 nc ra l2 rc nn nr]) ?_ (Calls.mono q.k3 fun e w' ⟨v,B,u,D⟩=>⟨v,B,u,D⟩)
  dsimp only [Sig.oper]
  generalize c.eval=ρ at *
  clear l q k
  go_simp
 | n+14,h,_=>exact absurd h (by omega)
end
theorem Zwf:R11.size=14:=by kernel_rfl
theorem Jc6 {Q:Exit->Act->World->Prop} {F:Nat->Value->World->Prop} {base:Act} {w0:World}
  (H:Znt .any R11 base.tmps.size Zzr=true)
  (x:∀ i v w w',F i v w->Below w.heap.size w w'->F i v w')
  (I:∀ i,i<14->∀ a w,Zl2 R11 base a->Below w0.heap.size w0 w->(∀ j ∈ Zzr i,F j (val R11 a j) w)->Zwm Tryz.prog R11 Q F i a w)
  (C:∀ a w,Zl2 R11 base a->Below w0.heap.size w0 w->(∀ i,i<14->F i (val R11 a i) w)->Q .normal a w) :
  wpAny Tryz.prog .any (L11.take 14).toArray Q 14 (Array.replicate 14 false) base w0.drew:=by
 have h:=Zuu (P:=Tryz.prog) (ops:=R11) (Q:=Q) (A:=Zzr) (F:=F) (base:=base) (w0:=w0) H x (fun i y=>I i (by rw [Zwf] at y;exact y)) (fun a w B u D=>C a w B u (fun i y=>D i (by rw [Zwf];exact y)))
 rw [Zwf] at h
 exact h
theorem Zzs (bx:Nat) (na:Option Addr) (l1 nc:Nat) (ra:Option Addr) (l2 rc:Nat) (nn nr:Int) {p0 p1 p2 p3:Value->World->Prop} (h0:Zh2 p0) (B:Zh2 p1) (u:Zh2 p2) (D:Zh2 p3):∀ p ∈ Zkq bx na l1 nc ra l2 rc nn nr p0 p1 p2 p3,Zh2 p:=by
 intro p O
 simp only [Zkq,List.mem_cons,List.not_mem_nil,or_false] at O
 rcases O with rfl | rfl | rfl | rfl | rfl | rfl | rfl | rfl | rfl | rfl | rfl | rfl | rfl | rfl<;>first | exact Zi1 _ | assumption
end Go.Proofs.YthfilnflgahcjaaGreatDoor

namespace Go.Proofs.YthfilnflgahcjaaGreatDoor
open Go.RowKit Go.Shelf Go.Maps
theorem Zs1 (x y:ByteArray × Int) (h:Zhy x=Zhy y):x=y:=Jhq.inj x y h
theorem Zzo (x y:Zae) (h:Zhc x=Zhc y):x=y:=Jfh.inj x y h
theorem Zzp (x y:Zav) (h:Zfw x=Zfw y):x=y:=Jeu.inj x y h
theorem Zdi {α:Type}:∀ {l l':List α},l.Nodup->(∀ x ∈ l,x ∈ l')->l.length<=l'.length
 | [],_,_,_=>Nat.zero_le _
 | a::r,l',h,hs=>by
  simp only [List.nodup_cons] at h
  obtain ⟨s,t,rfl⟩:=List.append_of_mem (hs a List.mem_cons_self)
  have:=Zdi (l:=r) (l':=s++t) h.2 fun x n=>by
   have d:=hs x (List.mem_cons_of_mem _ n)
   rcases List.mem_append.1 d with d | d
   ·exact List.mem_append_left _ d
   ·rcases List.mem_cons.1 d with rfl | d
    ·exact absurd n h.1
    ·exact List.mem_append_right _ d
  simp only [List.length_append,List.length_cons] at *
  omega
theorem Zjj {α β:Type} {f:α->β} (i:∀ x y,f x=f y->x=y):∀ {l l':List α},l.map f=l'.map f->l=l'
 | [],[],_=>rfl
 | [],b::l',h=>by simp at h
 | a::l,[],h=>by simp at h
 | a::l,b::l',h=>by
  simp only [List.map_cons,List.cons.injEq] at h
  rw [i a b h.1,Zjj i h.2]
theorem Znl {α β:Type} {f:α->β} (i:∀ x y,f x=f y->x=y) {l l':List α} (h:(l.map f).Perm (l'.map f)):l.Perm l':=by
 obtain ⟨m,d,g⟩:∃ m:List α,m.Perm l'/\m.map f=l.map f:=by
  generalize l.map f=k at h
  generalize hk:l'.map f=k' at h
  induction h generalizing l' with
  | nil=>exact ⟨[],by rw [List.map_eq_nil_iff.1 hk],rfl⟩
  | cons x _ ih =>
   obtain ⟨a,r,rfl,rfl,hr⟩:=List.map_eq_cons_iff.1 hk
   obtain ⟨m,d,g⟩:=ih hr
   exact ⟨a::m,d.cons a,by rw [List.map_cons,g]⟩
  | swap x y t =>
   obtain ⟨a,r,rfl,rfl,hr⟩:=List.map_eq_cons_iff.1 hk
   obtain ⟨c,r2,rfl,rfl,j⟩:=List.map_eq_cons_iff.1 hr
   exact ⟨c::a::r2,List.Perm.swap _ _ _,by simp [j]⟩
  | trans _ _ ih1 ih2 =>
   obtain ⟨m,d,g⟩:=ih2 hk
   obtain ⟨o,v,q⟩:=ih1 g
   exact ⟨o,v.trans d,q⟩
 rw [Zjj i g] at d
 exact d
theorem Zee {α:Type} {V:α->Value} (w:∀ x y,V x=V y->x=y) {D cs:List (α × Int)} (h:(D.map (fun p=>(V p.1,Value.int .i64 p.2))).Perm (cs.map (fun p=>(V p.1,Value.int .i64 p.2)))):D.Perm cs :=
 Znl (f:=fun p:α × Int=>(V p.1,Value.int .i64 p.2)) (fun x y e=>by
  obtain ⟨e1,e2⟩:=Prod.mk.inj e
  have u:x.2=y.2:=by injection e2
  exact Prod.ext (w _ _ e1) u) h
end Go.Proofs.YthfilnflgahcjaaGreatDoor

namespace Go.Proofs.YthfilnflgahcjaaGreatDoor
open Go.RowKit Go.Shelf Go.Maps
set_option linter.all false
attribute [local go_sem] Oper.semAt_some
set_option maxHeartbeats 1000000 in
theorem Jeb (s:ByteArray) (q z:Int) (w:World):Calls Tryz.prog 83 #[.agg #[.string s,.int .i64 q],.int .i64 z] w fun e w'=>e=.returned (.agg #[.string s,.int .i64 z])/\Below w.heap.size w w':=by
 go_enter Tryz.func83,Tryz.ntmps83
 go_wp2
 refine bodyPost_ret (by simp [results,Tryz.results83,go_sem]) rfl ⟨rfl,((Below.refl _ _).alloc (Nat.le_refl _) _).alloc (by simp) _⟩
structure Zt2 (w:World) (f:Array MapEntry) (d b r:Nat) (wr:World) (v:Value) (seen:Array Nat) (c0:Nat) (done:List MapEntry) (D:List ((ByteArray × Int) × Int)):Prop where
 it:wr.heap[r]?=some (.mapIter (some b) d seen c0)
 cl:d<=c0
 bw:Below w.heap.size w wr
 row:Jb 42 2 Za0 (r+1) wr v (D.map (fun p:(ByteArray × Int) × Int=>(p.1.1,p.2)))
 dn:D.map (fun p=>(Zhy p.1,Value.int .i64 p.2))=done.map (fun e=>(e.key,e.val))
 nd:done.Nodup
 sub:∀ x ∈ done,x ∈ f.toList
 has:∀ x ∈ f.toList,seen.contains x.born=true↔x ∈ done
def Zse (le:ByteArray × Int->ByteArray × Int->Prop) (most:Nat):Prop:=∀ (W:World) (v:Value) (base:Nat) (xs:List (ByteArray × Int)),base<=W.heap.size->xs.length<=most->Jb 42 2 Za0 base W v xs->Calls Tryz.prog 121 #[v,.func (.func 85) #[] #[]] W fun e w'=>e=.returned (.tuple #[])/\∃ ys,ys.Perm xs/\ys.Pairwise le/\Jb 42 2 Za0 base w' v ys/\Below base W w'
set_option maxRecDepth 100000 in
set_option maxHeartbeats 8000000 in
theorem Zvt {le:ByteArray × Int->ByteArray × Int->Prop} {most:Nat} (S:Zse le most) (b2:most<=900000) {w:World} {b:Nat} {cs:List ((ByteArray × Int) × Int)} (h:MC Zhy okL w b cs) (hl:cs.length<=most) :
  Calls Tryz.prog 84 #[.map (some b),.func (.func 83) #[] #[],.func (.func 85) #[] #[]] w fun e w'=>∃ v L,e=.returned v/\L.Perm (cs.map (fun p:(ByteArray × Int) × Int=>(p.1.1,p.2)))/\L.Pairwise le/\Jb 42 2 Za0 w.heap.size w' v L/\Below w.heap.size w w':=by
 have T:=MG.lt h
 obtain ⟨f,d,hb,t,a8,I⟩:=h
 have hn:f.size=cs.length:=by have:=congrArg List.length t;simpa using this
 have a3:Hid (∀ x ∈ f.toList,∃ p ∈ cs,x.key=Zhy p.1/\x.val=.int .i64 p.2):=fun x A=>by
  have n:(x.key,x.val) ∈ f.toList.map (fun e=>(e.key,e.val)):=List.mem_map.2 ⟨x,A,rfl⟩
  rw [t] at n
  obtain ⟨q,hq,e⟩:=List.mem_map.1 n
  obtain ⟨p,hp,rfl⟩:=List.mem_map.1 hq
  obtain ⟨e1,e2⟩:=Prod.mk.inj e
  exact ⟨p,hp,e1.symm,e2.symm⟩
 have b4:Hid (f.toList.map (fun e=>(e.key,e.val))=cs.map (fun p=>(Zhy p.1,Value.int .i64 p.2))):=by
  show _=_
  rw [t,List.map_map];rfl
 have b0:Hid (f.toList.Nodup):=by
  have:=I.2.1
  rw [List.nodup_iff_pairwise_ne] at *
  exact (List.pairwise_map.1 this).imp fun h e=>h (by rw [e])
 have a0:Hid (∀ x ∈ f.toList,∀ y ∈ f.toList,x.born=y.born->x=y):=fun x A y G e=>by
  obtain ⟨i,hi⟩:=List.getElem?_of_mem A
  obtain ⟨j,hj⟩:=List.getElem?_of_mem G
  have:=(List.getElem?_inj (l:=f.toList.map (·.born)) (by simpa using (List.getElem?_eq_some_iff.1 hi).1) I.2.1 (i:=i) (j:=j)).1 (by rw [List.getElem?_map,List.getElem?_map,hi,hj,Option.map_some,Option.map_some,e])
  subst this
  rw [hi] at hj
  exact Option.some.inj hj
 have a2:Hid (∀ done:List MapEntry,done.Nodup->(∀ x ∈ done,x ∈ f.toList)->done.length<=most):=fun done n h2=>by
  have:=Zdi n h2
  simp only [Array.length_toList] at this
  omega
 have a4:=Za I
 have HB:=Za hb
 have b1:=Za hl
 clear t a8 I hn hb hl
 go_enter Tryz.func84,Tryz.ntmps84
 have b8:=run_range_map (P:=Tryz.prog) w 134 42 2 b f d (by kernel_rfl) HB.out
 go_wp2_with fail
 go_loopw [7] (fun v wr=>∃ seen c0 done D,Zt2 w f d b w.heap.size wr v seen c0 done D) (fun _ wr=>wr.rangeLeft b w.heap.size)
 case atStart =>
  exact ⟨#[],d,[],[],World.alloc_heap_new _ _,Nat.le_refl _,(Below.refl _ _).alloc (Nat.le_refl _) _,Jo _ _ _ _ _,rfl,List.nodup_nil,fun x A=>by simp at A,fun x A=>by simp⟩
 case round =>
  obtain ⟨seen,c0,done,D,m⟩:=hrel
  have HC:=Za m
  have k:wr.heap[b]?=some (.map f d):=(m.bw.block b T).trans HB.out
  rcases run_next_at (P:=Tryz.prog) wr 0 w.heap.size b d c0 seen f d m.it k a4.out.1 m.cl with ⟨h0,a1⟩ | ⟨x,A,w1,B,a1⟩
  ·have HF:Hid ((D.map (fun p:(ByteArray × Int) × Int=>(p.1.1,p.2))).Perm (cs.map (fun p:(ByteArray × Int) × Int=>(p.1.1,p.2)))):=by
    have hp:done.Perm f.toList:=(List.perm_ext_iff_of_nodup m.nd b0.out).2 fun x=>⟨m.sub x,fun A=>(m.has x A).1 (all_seen f seen h0 x A)⟩
    have n:=hp.map (fun e=>(e.key,e.val))
    rw [<- m.dn,b4.out] at n
    exact (Zee Zs1 n).map _
   have R:(D.map (fun p:(ByteArray × Int) × Int=>(p.1.1,p.2))).length<=most:=by rw [HF.out.length_eq,List.length_map];exact b1.out
   have HS:=Za (S wr _ (w.heap.size+1) _ (by have:=(Array.getElem?_eq_some_iff.1 m.it).1;omega) R m.row)
   have b3:=Za m.bw
   clear m HC k h0 R
   go_wp2_with (go_at_call 121;refine HS.out.mono ?_;rintro e W3 ⟨rfl,ys,y1,y2,y3,y4⟩;have HY:=Za (And.intro y1 (And.intro y2 (And.intro y3 y4)));clear y1 y2 y3 y4)
   go_ret
   obtain ⟨y1,y2,y3,y4⟩:=HY.out
   exact ⟨_,ys,rfl,y1.trans HF.out,y2,y3.base (by omega),b3.out.trans (y4.mono (by omega))⟩
  ·obtain ⟨H,a7⟩:=mem_left A
   obtain ⟨⟨⟨s,q⟩,z⟩,b6,ek,ev⟩:=a3.out x H
   simp only [Zhy] at ek ev
   obtain ⟨U,hU⟩:∃ V,Go.ChangeMaps.setBlock w1 w.heap.size (.mapIter (some b) d (seen.push x.born) d)=V:=⟨_,rfl⟩
   rw [hU,ek,ev] at a1
   have O:w1.heap[w.heap.size]?=some (.mapIter (some b) d seen c0):=by rcases B with rfl | rfl<;>exact m.it
   have C:=MapKept.heap_set (o':=.mapIter (some b) d (seen.push x.born) d) O
   have X:∀ q,q≠w.heap.size->U.heap[q]?=wr.heap[q]?:=fun q hq=>by
    rw [<- hU]
    have:w1.heap[q]?=wr.heap[q]?:=by rcases B with rfl | rfl<;>rfl
    exact (C.2 q hq).trans this
   have a6:U.heap.size=wr.heap.size:=by
    rw [<- hU]
    have:w1.heap.size=wr.heap.size:=by rcases B with rfl | rfl<;>rfl
    simp [Go.ChangeMaps.setBlock,this]
   have M:U.heap[w.heap.size]?=some (.mapIter (some b) d (seen.push x.born) d):=by rw [<- hU];exact C.1
   have K:U.os=wr.os/\U.tape=wr.tape/\U.output=wr.output:=by
    rw [<- hU]
    rcases B with rfl | rfl<;>exact ⟨rfl,rfl,rfl⟩
   have Y:Below w.heap.size w U:=⟨K.1.trans m.bw.os,K.2.1.trans m.bw.tape,K.2.2.trans m.bw.output,by rw [a6];exact m.bw.size,fun q hq=>(X q (by omega)).trans (m.bw.block q hq)⟩
   have b7:=run_entry_at (P:=Tryz.prog) U w.heap.size b d seen f d x M ((Y.block b T).trans HB.out) H a4.out.2.1
   rw [ek,ev] at b7
   have a5:Jb 42 2 Za0 (w.heap.size+1) U _ (D.map (fun p:(ByteArray × Int) × Int=>(p.1.1,p.2))):=m.row.keep fun g hg _=>X g (by omega)
   have E:(leftOf f (seen.push x.born)).size<(leftOf f seen).size:=left_shrinks f seen x A
   have o:wr.rangeLeft b w.heap.size=(leftOf f seen).size:=by simp only [World.rangeLeft,k,m.it]
   have Q:w.heap.size<U.heap.size:=(Array.getElem?_eq_some_iff.1 M).1
   have a9:D.length<=most:=by
    have n:=congrArg List.length m.dn
    simp only [List.length_map] at n
    rw [n];exact a2.out done m.nd m.sub
   have HA:Hid (Below U.heap.size U (U.alloc (.cells #[.string s,.int .i64 q] 42))):=(Below.refl _ _).alloc (Nat.le_refl _) _
   have HU:=Za (And.intro M (And.intro Y (And.intro a5 (And.intro Q a9))))
   have HX:=Za (And.intro H (And.intro a7 (And.intro ek ev)))
   have HM:=Za (And.intro E o)
   clear m k hU O C X a6 M K Y H a7 ek ev A B E o b6 a5 Q a9
   go_wp2_with (first
    | (go_at_call 83;refine (Jeb s q z _).mono ?_;rintro e W2 ⟨rfl,k⟩
       obtain ⟨v6,W6,p1,p2,p3,p4⟩:=Jd (ty:=28) (c:=1) (bl:=W2.heap.size) (off:=0) (x:=(s,z)) Ztq (fun x=>rfl) Zf9 (((HU.out.2.2.1.below HA.out).below k).below ((Below.refl _ _).alloc (Nat.le_refl _) (.cells #[.string s,.int .i64 z] 42))) (fun jj u hu=>by
        rw [Nat.zero_add]
        exact Zh _ _ _ _ _ (by simpa [Za0] using hu)) (by rw [List.length_map];have:=HU.out.2.2.2.2;omega) (by have n:=HU.out.2.2.2.1;have h2:=HA.out.size;have h3:=k.size;simp;omega)
       have HP:=Za (And.intro p2 (And.intro p3 k))
       clear p2 p3 p4 k)
    | (at_builtin;refine Lib.wpList_append_run _ rfl _ _ _ _ rfl _ _ rfl rfl _ _ p1 ?_))
   have F:Hid (Zt2 w f d b w.heap.size W6 v6 (seen.push x.born) d (done++[x]) (D++[((s,q),z)])):=by
    obtain ⟨p2,p3,k⟩:=HP.out
    obtain ⟨u1,u2,u3,u4,u5⟩:=HU.out
    have N:Below (w.heap.size+1) U W6:=(((HA.out.mono (by omega)).trans (k.mono (by have:=HA.out.size;omega))).trans (((Below.refl _ _).alloc (Nat.le_refl _) _:Below W2.heap.size W2 (W2.alloc (.cells #[.string s,.int .i64 z] 42))).mono (by have:=HA.out.size;have:=k.size;omega))).trans p3
    refine ⟨(N.block _ (by omega)).trans u1,Nat.le_refl _,u2.trans (N.mono (by omega)),?_,?_,?_,?_,?_⟩
    ·rw [List.map_append];exact p2
    ·rw [List.map_append,List.map_append,HC.out.dn]
     simp [Zhy,HX.out.2.2.1,HX.out.2.2.2]
    ·refine List.nodup_append.2 ⟨HC.out.nd,by simp,fun a ha c hc=>?_⟩
     simp only [List.mem_singleton] at hc
     subst hc
     intro e
     subst e
     have:=(HC.out.has _ HX.out.1).2 ha
     rw [HX.out.2.1] at this
     cases this
    ·intro y G
     rcases List.mem_append.1 G with G | G
     ·exact HC.out.sub y G
     ·rw [List.mem_singleton.1 G];exact HX.out.1
    ·intro y G
     rw [contains_push]
     simp only [Bool.or_eq_true,HC.out.has y G,beq_iff_eq,List.mem_append,List.mem_singleton]
     constructor
     ·rintro (n | n)
      ·exact .inl n
      ·exact .inr (a0.out y G x HX.out.1 n)
     ·rintro (n | n)
      ·exact .inl n
      ·exact .inr (by rw [n])
   go_roundw
   case rel=>exact ⟨_,_,_,_,F.out⟩
   case measure =>
    have n:W6.rangeLeft b w.heap.size=(leftOf f (seen.push x.born)).size:=by
     have b5:W6.heap[b]?=some (.map f d):=(F.out.bw.block b T).trans HB.out
     simp only [World.rangeLeft,b5,F.out.it]
    rw [n,HM.out.2]
    exact HM.out.1
end Go.Proofs.YthfilnflgahcjaaGreatDoor

