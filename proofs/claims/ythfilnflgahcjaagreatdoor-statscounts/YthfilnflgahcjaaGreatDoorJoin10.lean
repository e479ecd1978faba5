/- A graph of nothing: it may be, and is made. Whatever order a region draws, where operations write: facts about values, and a state of the world that hangs on what has come up. What is reckoned from counts: how many relationships a node has. Something of each row. -/
import Derived.Test.YthfilnflgahcjaaGreatDoorJoin1
import Derived.Deep.Cut
import Derived.Test.YthfilnflgahcjaaGreatDoorFacts
import Derived.Test.YthfilnflgahcjaaGreatDoorJoin6
import Derived.Test.YthfilnflgahcjaaGreatDoorJoin4
namespace Go.Proofs.YthfilnflgahcjaaGreatDoor
open Go.RowKit Go.Shelf
set_option linter.all false
attribute [local go_sem] Oper.semAt_some
def ruL:List Value:=[.func (.func 100) #[] #[],.func (.func 101) #[] #[],.func (.func 102) #[] #[],.func (.func 103) #[] #[],.func (.func 104) #[] #[],.func (.func 105) #[] #[]]
set_option maxRecDepth 100000 in
theorem Zws (w:World):Calls Tryz.prog 47 #[] w fun e w'=>e=.returned (.slice (some ⟨w.heap.size,0,none⟩) 6 6)/\Below w.heap.size w w'/\∀ q v,ruL[q]?=some v->w'.cell? ⟨w.heap.size,q,none⟩=some v:=by
 go_enter Tryz.func47,Tryz.ntmps47
 go_wp2_with fail
 generalize a:World.alloc _ _=W1
 have b:Hid (Below w.heap.size w W1):=by rw [<- a];exact (Below.refl _ _).alloc (Nat.le_refl _) _
 have d:Hid (∀ q v,ruL[q]?=some v->W1.cell? ⟨w.heap.size,q,none⟩=some v):=by
  intro q v c
  rw [<- a]
  refine Zh _ _ _ _ _ ?_
  have:ruL.toArray[q]?=some v:=by rw [List.getElem?_toArray,c]
  exact this
 clear a
 go_ret
 exact ⟨rfl,b.out,d.out⟩
end Go.Proofs.YthfilnflgahcjaaGreatDoor

namespace Go.Proofs.YthfilnflgahcjaaGreatDoor
open Go.RowKit
set_option linter.all false
def upd {α:Type} (f:Nat->α) (i:Nat) (x:α):Nat->α:=fun j=>if j=i then x else f j
theorem Ja {α:Type} (f:Nat->α) (i:Nat) (x:α):upd f i x i=x:=by simp [upd]
theorem Zb {α:Type} (f:Nat->α) {i j:Nat} (x:α) (h:j≠i):upd f i x j=f j:=by simp [upd,h]
section
variable {P:Program} {ops:Array Oper} {Q:Exit->Act->World->Prop}
def Zs3 (ops:Array Oper) (n:Nat) (A:Nat->List Nat):Bool :=
 (List.range ops.size).all fun i =>
  match ops[i]? with
  | none=>false
  | some o =>
   (o.after.all fun e=>!Region.binds .any e||decide (e.on<i)) &&
   (match o.dst with
    | none=>true
    | some d=>decide (d<n)&&(List.range i).all fun j=>Zo ops j != some d) &&
   (A i).all fun j=>o.after.any fun e=>Region.binds .any e&&(e.on==j||(A e.on).contains j)
def Laid (ops:Array Oper) (n:Nat) (A:Nat->List Nat):Prop :=
 ∀ i,i<ops.size->∃ o,ops[i]?=some o/\Zo ops i=o.dst/\(∀ d,o.dst=some d->d<n)/\(∀ e ∈ o.after,Region.binds .any e=true->e.on<i) /\
   (∀ j d,j<i->o.dst=some d->Zo ops j≠some d)/\(∀ j ∈ A i,∃ e ∈ o.after,Region.binds .any e=true/\(e.on=j\/j ∈ A e.on))
theorem Jc8 {n:Nat} {A:Nat->List Nat} (N:Zs3 ops n A=true):Laid ops n A:=by
 intro i g
 have h:=List.all_eq_true.1 N i (List.mem_range.2 g)
 have U:ops[i]?=some ops[i]:=by simp [g]
 rw [U] at h
 simp only [Bool.and_eq_true] at h
 obtain ⟨⟨h1,V⟩,h3⟩:=h
 refine ⟨_,U,by simp [Zo,U],?_,?_,?_,?_⟩
 ·intro d z
  rw [z] at V
  simp only [Bool.and_eq_true,decide_eq_true_eq] at V
  exact V.1
 ·intro e he hb
  have:=Array.all_eq_true_iff_forall_mem.1 h1 e he
  simpa [hb] using this
 ·intro j d p z
  rw [z] at V
  simp only [Bool.and_eq_true,decide_eq_true_eq] at V
  have:=List.all_eq_true.1 V.2 j (List.mem_range.2 p)
  simpa using this
 ·intro j p
  have:=List.all_eq_true.1 h3 j p
  obtain ⟨k,hk,h⟩:=Array.any_eq_true.1 this
  simp only [Bool.and_eq_true,Bool.or_eq_true,beq_iff_eq,List.contains_iff_mem] at h
  exact ⟨_,Array.getElem_mem hk,h.1,h.2⟩
def Ji3 (ops:Array Oper) (A:Nat->List Nat) (G:Nat->Value->Prop) (S:(Nat->Bool)->(Nat->Value)->World->Prop) (base:Act) (b:Array Bool) (a:Act) (w:World):Prop :=
 b.size=ops.size/\Zl2 ops base a/\S (fun j=>b.getD j false) (val ops a) w/\∀ i,b.getD i false=true->G i (val ops a i)/\∀ j ∈ A i,b.getD j false=true
def Zd2 (P:Program) (ops:Array Oper) (Q:Exit->Act->World->Prop) (G:Nat->Value->Prop) (S:(Nat->Bool)->(Nat->Value)->World->Prop) (i:Nat) (l:Nat->Bool) (a:Act) (w:World):Prop :=
 wpOp P ops Q i (fun F w'=>∃ v,F=a.put (Zo ops i) v/\G i (val ops F i)/\S (upd l i true) (upd (val ops a) i (val ops F i)) w') a w
theorem Zdk {A:Nat->List Nat} {G:Nat->Value->Prop} {S:(Nat->Bool)->(Nat->Value)->World->Prop} {base:Act} {w0:World} {id:Nat}
  (hm:P.follows .mixedOrders=true) (N:Zs3 ops base.tmps.size A=true)
  (C:S (fun _=>false) (val ops base) w0.drew)
  (a2:∀ i,i<ops.size->∀ l a w,Zl2 ops base a->l i=false->(∀ k,l k=true->∀ j ∈ A k,l j=true)->(∀ j ∈ A i,l j=true/\G j (val ops a j))->S l (val ops a) w->Zd2 P ops Q G S i l a w)
  (Y:∀ l a w,Zl2 ops base a->(∀ i,i<ops.size->l i=true/\G i (val ops a i))->S l (val ops a) w->Q .normal a w) :
  (Code.region id ops true).wp P Q base w0:=by
 have q:=Jc8 N
 have E:∀ i,i<ops.size->∀ (a:Act) (v:Value) (j:Nat),j≠i->val ops (a.put (Zo ops i) v) j=val ops a j:=by
  intro i g a v j c
  unfold val
  cases p:Zo ops j with
  | none=>rfl
  | some d =>
   have L:∀ T,Zo ops i=some T->T≠d:=by
    intro T a1 e
    subst e
    have a3:j<ops.size:=by
     rcases Nat.lt_or_ge j ops.size with h | h
     ·exact h
     ·unfold Zo at p;rw [Array.getElem?_eq_none h] at p;cases p
    obtain ⟨o,_,y,_,_,hb,_⟩:=q i g
    obtain ⟨o',_,b0,_,_,a6,_⟩:=q j a3
    rcases Nat.lt_or_gt_of_ne c with h | h
    ·exact hb j T h (y▸a1) p
    ·exact a6 i T h (b0▸p) a1
   cases hi':Zo ops i with
   | none=>simp [Act.put]
   | some T=>simp [Act.put,Act.eval,Array.getD_eq_getD_getElem?,Array.getElem?_setIfInBounds_ne (L T hi')]
 refine wp_region_any hm (Zo9 (Ji3 ops A G S base) ?_ ?_ _ _ _ _ (by rw [Zns];exact Nat.le_refl _) ⟨by simp,⟨rfl,rfl,fun _ _=>rfl⟩,?_,?_⟩)
 ·rintro b a w i ⟨u,r,H,R⟩ hr
  obtain ⟨a8,o',B,D⟩:=mem_ready.1 hr
  have g:i<ops.size:=by
   rcases Nat.lt_or_ge i ops.size with h | h
   ·exact h
   ·rw [Array.getElem?_eq_none h] at B;cases B
  obtain ⟨o,m,y,b1,_,_,hA⟩:=q i g
  have:o'=o:=by rw [m] at B;exact (Option.some.inj B).symm
  subst this
  have O:b.getD i false=false:=by simpa [Array.getD,u,g] using a8
  have M:∀ j ∈ A i,b.getD j false=true:=by
   intro j p
   obtain ⟨e,he,hb,a4⟩:=hA j p
   have hl:=D e he hb
   rcases a4 with rfl | h
   ·exact hl
   ·exact (R _ hl).2 j h
  refine wpOp_mono ?_ (a2 i g (fun j=>b.getD j false) a w r O (fun k hk=>(R k hk).2) (fun j p=>⟨M j p,(R j (M j p)).1⟩) H)
  rintro F w' ⟨v,rfl,I,a9⟩
  have a5:(fun j=>(b.setIfInBounds i true).getD j false)=upd (fun j=>b.getD j false) i true:=by
   funext j
   by_cases c:j=i
   ·subst c;rw [Ja];simp [Array.getD_eq_getD_getElem?,u,g]
   ·rw [Zb _ _ c];simp [Array.getD_eq_getD_getElem?,Array.getElem?_setIfInBounds_ne (Ne.symm c)]
  have a7:val ops (a.put (Zo ops i) v)=upd (val ops a) i (val ops (a.put (Zo ops i) v) i):=by
   funext j
   by_cases c:j=i
   ·subst c;rw [Ja]
   ·rw [Zb _ _ c];exact E i g a v j c
  refine ⟨by simp [u],⟨?_,?_,fun k hk=>?_⟩,?_,fun j p=>?_⟩
  ·cases Zo ops i<;>simp [Act.put]<;>exact r.1
  ·cases Zo ops i<;>simp [Act.put]<;>exact r.2.1
  ·have L:=hk i g
   cases hsi:Zo ops i with
   | none=>simp [Act.put];exact r.2.2 k hk
   | some d =>
    have:d≠k:=fun e=>L (by rw [hsi,e])
    simp only [Act.put,Array.getElem?_setIfInBounds_ne this]
    exact r.2.2 k hk
  ·rw [a5,a7];exact a9
  ·by_cases c:j=i
   ·subst c
    refine ⟨I,fun k hk=>?_⟩
    have:=M k hk
    by_cases hkj:k=j
    ·subst hkj;rw [O] at this;cases this
    ·simpa [Array.getD_eq_getD_getElem?,Array.getElem?_setIfInBounds_ne (Ne.symm hkj)] using this
   ·have X:b.getD j false=true:=by
     simpa [Array.getD_eq_getD_getElem?,Array.getElem?_setIfInBounds_ne (Ne.symm c)] using p
    refine ⟨by rw [E i g a v j c];exact (R j X).1,fun k hk=>?_⟩
    have:=(R j X).2 k hk
    by_cases hki:k=i
    ·subst hki;rw [O] at this;cases this
    ·simpa [Array.getD_eq_getD_getElem?,Array.getElem?_setIfInBounds_ne (Ne.symm hki)] using this
 ·rintro b a w ⟨u,r,H,R⟩ hr
  have t:∀ i,i<ops.size->b.getD i false=true:=by
   intro i
   induction i using Nat.strongRecOn with
   | _ i ih =>
    intro g
    obtain ⟨o,m,y,b1,a0,_,_⟩:=q i g
    by_cases h:b.getD i true=true
    ·simpa [Array.getD,u,g] using h
    ·have hf:b.getD i true=false:=by simpa using h
     have:i ∈ Region.ready .any ops b:=mem_ready.2 ⟨hf,o,m,fun e he hb=>ih _ (a0 e he hb) (Nat.lt_trans (a0 e he hb) g)⟩
     rw [hr] at this;cases this
  exact Y (fun j=>b.getD j false) a w r (fun i g=>⟨t i g,(R i (t i g)).1⟩) H
 ·have e:(fun j=>(Array.replicate ops.size false).getD j false)=fun _=>false:=by
   funext j
   rcases Nat.lt_or_ge j ops.size with h | h
   ·simp [Array.getD,h]
   ·simp [Array.getD,Nat.not_lt.2 h]
  rw [e];exact C
 ·intro i g
  rcases Nat.lt_or_ge i ops.size with h | h
  ·simp [Array.getD,h] at g
  ·simp [Array.getD,Nat.not_lt.2 h] at g
variable {G:Nat->Value->Prop} {S:(Nat->Bool)->(Nat->Value)->World->Prop} {l:Nat->Bool}
theorem Zq8 {i:Nat} {o:Oper} {a:Act} {d:Tmp} (m:ops[i]?=some o) (z:o.dst=some d) (hn:d<a.tmps.size) (v:Value):val ops (a.put (Zo ops i) v) i=v:=by
 have y:Zo ops i=some d:=by simp [Zo,m,z]
 simp [val,y,Act.put,Act.eval,Array.getD_eq_getD_getElem?,hn]
theorem Zr {i:Nat} {o:Oper} {a:Act} {w w':World} {v:Value} {d:Tmp} (m:ops[i]?=some o) (z:o.dst=some d) (hn:d<a.tmps.size) (W:Region.wanted o (yielded ops a.tmps)=true)
  (hr:(execOp a.eval o).run P w=.ok (.value v) w') (I:G i v) (r:S (upd l i true) (upd (val ops a) i v) w'):Zd2 P ops Q G S i l a w:=by
 unfold Zd2 wpOp
 simp only [m,W,if_true]
 refine .inl ?_
 unfold Oper.wp
 rw [hr,Oper.upon_value]
 have s:=Zq8 m z hn v
 have y:Zo ops i=o.dst:=by simp [Zo,m]
 rw [y] at s |-
 exact ⟨v,rfl,by rw [s];exact I,by rw [s];exact r⟩
theorem Zgn {i:Nat} {o:Oper} {a:Act} {w:World} {f:FuncId} {args:Array Value} {d:Tmp} (m:ops[i]?=some o) (z:o.dst=some d) (hn:d<a.tmps.size) (W:Region.wanted o (yielded ops a.tmps)=true)
  (hr:(execOp a.eval o).run P w=.ok (.enter f args) w) (hc:Calls P f args w fun e w'=>∃ v,e=.returned v/\G i v/\S (upd l i true) (upd (val ops a) i v) w'):Zd2 P ops Q G S i l a w:=by
 unfold Zd2 wpOp
 simp only [m,W,if_true]
 refine .inl ?_
 unfold Oper.wp
 rw [hr,Oper.upon_enter]
 refine hc.mono ?_
 rintro e w' ⟨v,rfl,I,r⟩
 have s:=Zq8 m z hn v
 have y:Zo ops i=o.dst:=by simp [Zo,m]
 rw [y] at s |-
 exact ⟨v,rfl,by rw [s];exact I,by rw [s];exact r⟩
theorem Zbw {i:Nat} {o:Oper} {a:Act} {w:World} {d:Tmp} (m:ops[i]?=some o) (z:o.dst=some d) (hn:d<a.tmps.size)
  (hl:∀ K:Act->World->Prop,(∀ v w',G i v->S (upd l i true) (upd (val ops a) i v) w'->K (a.put o.dst v) w')->if Region.wanted o (yielded ops a.tmps)=true then Oper.wp P o a w K Q else False):Zd2 P ops Q G S i l a w:=by
 unfold Zd2 wpOp
 have h:=hl (fun F w'=>∃ v,F=a.put (Zo ops i) v/\G i (val ops F i)/\S (upd l i true) (upd (val ops a) i (val ops F i)) w') (fun v w' I r=>by
  have s:=Zq8 m z hn v
  have y:Zo ops i=o.dst:=by simp [Zo,m]
  rw [y] at s |-
  exact ⟨v,rfl,by rw [s];exact I,by rw [s];exact r⟩)
 simp only [m]
 by_cases W:Region.wanted o (yielded ops a.tmps)=true
 ·rw [if_pos W] at h |-;exact .inl h
 ·rw [if_neg W] at h;exact h.elim
end
end Go.Proofs.YthfilnflgahcjaaGreatDoor

namespace Go.Proofs.YthfilnflgahcjaaGreatDoor
open Go.RowKit Go.Shelf Go.Maps
set_option linter.all false
attribute [local go_sem] Oper.semAt_some
def Jh3 (s:Zak) (f:Int) (ts:List ByteArray):Int:=Zbl (if f=0 then Zah [Zcf s ts,Zcf s ts] else Zcf s ts) (Ze2 s.nodes)
set_option maxRecDepth 100000 in
set_option maxHeartbeats 4000000 in
theorem Jed (s:Zak) (vl vt ve vk vs:Value) (f:Int) (ls:List ByteArray) (B:Nat) (w:World) (hB:B<=w.heap.size) (h:Zc0 B w vl vt ve vk s) (O:Zal 1 Zap B w vs ls) (D:∀ x ∈ ls,okS x) (hl:ls.length<=100000):Calls Tryz.prog 26 #[Za4 s vl vt ve vk,.int .i64 f,vs] w fun e w'=>e=.returned (.int .i64 (Jh3 s f ls))/\Below w.heap.size w w':=by
 have P:Hid (∀ W,Below w.heap.size w W->Calls Tryz.prog 20 #[Za4 s vl vt ve vk,vs] W fun e w'=>e=.returned (.int .i64 (Zcf s ls))/\Below W.heap.size W w'):=fun W hb=>Zpv s vl vt ve vk vs ls B W (Nat.le_trans hB hb.size) (h.keep (hb.mono hB)) (O.keep (hb.mono hB)) D hl
 have L:Hid (∀ W,Below w.heap.size w W->Calls Tryz.prog 17 #[Za4 s vl vt ve vk] W fun e w'=>e=.returned (.int .i64 (Ze2 s.nodes))/\Below W.heap.size W w'):=fun W hb=>Zw7 s vl vt ve vk B W (h.keep (hb.mono hB))
 unfold Jh3
 obtain ⟨t,ht⟩:∃ t,Zcf s ls=t:=⟨_,rfl⟩
 obtain ⟨c,N⟩:∃ c,Ze2 s.nodes=c:=⟨_,rfl⟩
 rw [ht] at P |-
 rw [N] at L |-
 clear ht N
 obtain ⟨G,i⟩:∃ r,Zbl (if f=0 then Zah [t,t] else t) c=r:=⟨_,rfl⟩
 rw [i]
 have l:=Za i
 clear i
 have K:Hid (∀ a W,Calls Tryz.prog 32 #[.int .i64 a,.int .i64 c] W fun e w'=>e=.returned (.int .i64 (Zbl a c))/\w'=W):=fun a W=>Zio a c W
 obtain ⟨la,lc,rfl,_⟩:=h.hl
 obtain ⟨ta,tc,rfl,_⟩:=h.ht
 obtain ⟨ea,ec,rfl,_⟩:=h.he
 obtain ⟨ka,kc,rfl,_⟩:=h.hk
 obtain ⟨V,U,rfl,_⟩:=O
 unfold Za4 at *
 generalize s.nodes=n at *
 generalize s.rels=r at *
 generalize s.labels.length=l1 at *
 generalize s.types.length=l2 at *
 generalize s.ends.length=l3 at *
 generalize s.keys.length=l4 at *
 generalize ls.length=l5 at *
 clear h D
 have M:Below w.heap.size w (w.alloc (.cells #[.int .i64 n,.int .i64 r,.slice la l1 lc,.slice ta l2 tc,.slice ea l3 ec,.slice ka l4 kc] 33)):=(Below.refl _ _).alloc (Nat.le_refl _) _
 have v:w.heap.size<(w.alloc (.cells #[.int .i64 n,.int .i64 r,.slice la l1 lc,.slice ta l2 tc,.slice ea l3 ec,.slice ka l4 kc] 33)).heap.size:=by simp
 have F:(w.alloc (.cells #[.int .i64 n,.int .i64 r,.slice la l1 lc,.slice ta l2 tc,.slice ea l3 ec,.slice ka l4 kc] 33)).cell? ⟨w.heap.size,0,none⟩=some (.int .i64 n):=Zh _ _ _ _ _ rfl
 have e1:(w.alloc (.cells #[.int .i64 n,.int .i64 r,.slice la l1 lc,.slice ta l2 tc,.slice ea l3 ec,.slice ka l4 kc] 33)).cell? ⟨w.heap.size,1,none⟩=some (.int .i64 r):=Zh _ _ _ _ _ rfl
 have e2:(w.alloc (.cells #[.int .i64 n,.int .i64 r,.slice la l1 lc,.slice ta l2 tc,.slice ea l3 ec,.slice ka l4 kc] 33)).cell? ⟨w.heap.size,2,none⟩=some (.slice la l1 lc):=Zh _ _ _ _ _ rfl
 have I:(w.alloc (.cells #[.int .i64 n,.int .i64 r,.slice la l1 lc,.slice ta l2 tc,.slice ea l3 ec,.slice ka l4 kc] 33)).cell? ⟨w.heap.size,3,none⟩=some (.slice ta l2 tc):=Zh _ _ _ _ _ rfl
 have H:(w.alloc (.cells #[.int .i64 n,.int .i64 r,.slice la l1 lc,.slice ta l2 tc,.slice ea l3 ec,.slice ka l4 kc] 33)).cell? ⟨w.heap.size,4,none⟩=some (.slice ea l3 ec):=Zh _ _ _ _ _ rfl
 have E:(w.alloc (.cells #[.int .i64 n,.int .i64 r,.slice la l1 lc,.slice ta l2 tc,.slice ea l3 ec,.slice ka l4 kc] 33)).cell? ⟨w.heap.size,5,none⟩=some (.slice ka l4 kc):=Zh _ _ _ _ _ rfl
 go_enter Tryz.func26,Tryz.ntmps26
 go_upto_region 1 with fail
 obtain ⟨T,C⟩:∃ W,w.alloc (.cells #[.int .i64 n,.int .i64 r,.slice la l1 lc,.slice ta l2 tc,.slice ea l3 ec,.slice ka l4 kc] 33)=W:=⟨_,rfl⟩
 rw [C] at M v F e1 e2 I H E |-
 have o:=Za M
 have y:=Za v
 clear C M v
 go_upto_region 2 with (go_at_call 20;refine (P.out _ o.out).mono ?_;rintro e z ⟨rfl,d⟩)
 replace F:=(d.cell (p:=⟨w.heap.size,0,none⟩) y.out).trans F
 replace e1:=(d.cell (p:=⟨w.heap.size,1,none⟩) y.out).trans e1
 replace e2:=(d.cell (p:=⟨w.heap.size,2,none⟩) y.out).trans e2
 replace I:=(d.cell (p:=⟨w.heap.size,3,none⟩) y.out).trans I
 replace H:=(d.cell (p:=⟨w.heap.size,4,none⟩) y.out).trans H
 replace E:=(d.cell (p:=⟨w.heap.size,5,none⟩) y.out).trans E
 have j:Hid (Below w.heap.size w z):=o.out.trans (d.mono o.out.size)
 have g:Hid (w.heap.size<z.heap.size):=Nat.lt_of_lt_of_le y.out d.size
 clear d
 by_cases hd:f=0
 ·subst hd
  have q:Hid (G=Zbl (Zah [t,t]) c):=by show _=_;rw [<- l.out,if_pos rfl]
  have Q:=Za (Zcj [t,t] _ _ _ (Nat.le_refl _) (Zbb (k:=1) (enc:=Zkk) (fun _=>rfl) z [t,t] #[.int .i64 t,.int .i64 t] 2 rfl (show 2<=9223372036854775807 by decide)))
  have A:Below w.heap.size w (z.alloc (.cells #[.int .i64 t,.int .i64 t] 2)):=j.out.alloc j.out.size _
  have m:=Za A
  have b:Below z.heap.size z (z.alloc (.cells #[.int .i64 t,.int .i64 t] 2)):=(Below.refl _ _).alloc (Nat.le_refl _) _
  replace F:=(b.cell (p:=⟨w.heap.size,0,none⟩) g.out).trans F
  replace e1:=(b.cell (p:=⟨w.heap.size,1,none⟩) g.out).trans e1
  replace e2:=(b.cell (p:=⟨w.heap.size,2,none⟩) g.out).trans e2
  replace I:=(b.cell (p:=⟨w.heap.size,3,none⟩) g.out).trans I
  replace H:=(b.cell (p:=⟨w.heap.size,4,none⟩) g.out).trans H
  replace E:=(b.cell (p:=⟨w.heap.size,5,none⟩) g.out).trans E
  clear A b
  go_wp2_with (first
   | (go_at_call 34;refine Q.out.mono ?_;rintro e _ ⟨rfl,rfl⟩)
   | (go_at_call 17;refine (L.out _ m.out).mono ?_;rintro e S ⟨rfl,b⟩;have u:=Za (m.out.trans (b.mono m.out.size));clear b)
   | (go_at_call 32;refine (K.out _ _).mono ?_;rintro e _ ⟨rfl,rfl⟩))
  go_ret
  exact ⟨by rw [q.out];rfl,u.out⟩
 ·have R:(f==0)=false:=beq_eq_false_iff_ne.2 hd
  have q:Hid (G=Zbl t c):=by show _=_;rw [<- l.out,if_neg hd]
  go_wp2_with (first
   | (go_at_call 17;refine (L.out _ j.out).mono ?_;rintro e S ⟨rfl,b⟩;have u:=Za (j.out.trans (b.mono j.out.size));clear b)
   | (go_at_call 32;refine (K.out _ _).mono ?_;rintro e _ ⟨rfl,rfl⟩))
  go_ret
  exact ⟨by rw [q.out];rfl,u.out⟩
end Go.Proofs.YthfilnflgahcjaaGreatDoor

namespace Go.Proofs.YthfilnflgahcjaaGreatDoor
open Go.RowKit Go.Shelf Go.Maps
set_option linter.all false
attribute [local go_sem] Oper.semAt_some
set_option maxRecDepth 100000 in
set_option maxHeartbeats 4000000 in
theorem Jeh (a:List (ByteArray × Int)) (D:Value) (B:Nat) (w:World) (hB:B<=w.heap.size) (hr:Zal 2 Za0 B w D a) (z:a.length<=100000) :
  Calls Tryz.prog 64 #[D,.func (.func 59) #[] #[]] w fun e w'=>∃ v,e=.returned v/\Jb 9 1 Zap w.heap.size w' v (a.map (fun x:ByteArray × Int=>x.1))/\Below w.heap.size w w':=by
 obtain ⟨ra,rc,rfl,N,r2,G⟩:=hr
 have y:=Za G
 obtain ⟨m,hm⟩:∃ n,a.length=n:=⟨_,rfl⟩
 have E:=Za hm
 rw [hm] at N z |-
 clear G hm
 go_enter Tryz.func64,Tryz.ntmps64
 go_wp2_with fail
 go_loopw [5,10] (fun v i wr=>∃ j:Nat,j<=m/\i=.int .i64 j/\Below w.heap.size w wr/\Jb 9 1 Zap w.heap.size wr v ((a.take j).map (fun x:ByteArray × Int=>x.1))) (fun _ i _=>m - (intOf i).toNat)
 case atStart=>exact ⟨0,Nat.zero_le _,rfl,Below.refl _ _,Jo _ _ _ _ _⟩
 case round =>
  obtain ⟨j,R,rfl,l,g⟩:=hrel
  have b:=Za l
  have h:=Za g
  clear l g
  by_cases hlt:j<m
  ·have k:(j:Int)<m:=by omega
   obtain ⟨⟨s,q⟩,f⟩:∃ q,a[j]?=some q:=⟨_,List.getElem?_eq_getElem (by have:=E.out;omega)⟩
   obtain ⟨bl,off,rfl,P,t⟩:=y.out.resolve_left (by intro e;rw [e] at f;simp at f)
   have c0:=(b.out.cell (p:=⟨bl,off+j*2+0,none⟩) (show bl<w.heap.size by omega)).trans (t j (s,q) f 0 _ rfl)
   have c1:=(b.out.cell (p:=⟨bl,off+j*2+1,none⟩) (show bl<w.heap.size by omega)).trans (t j (s,q) f 1 _ rfl)
   rw [Nat.add_zero] at c0
   simp only at c0 c1
   have O:=Za f
   clear f t
   have r:Hid (Below wr.heap.size wr (wr.alloc (.cells #[.string s,.int .i64 q] 62))):=(Below.refl _ _).alloc (Nat.le_refl _) _
   go_wp2_with (first
    | (go_at_call 59;refine (Zrn s q _).mono ?_;rintro e A ⟨rfl,d⟩
       have H:w.heap.size<=A.heap.size:=Nat.le_trans b.out.size (Nat.le_trans r.out.size d.size)
       obtain ⟨S,T,p1,p2,p3,K⟩:=Jd (ty:=43) (c:=1) (bl:=A.heap.size) (off:=0) (x:=s) Zek (fun x=>rfl) Zcr (((h.out.below r.out).below d).below ((Below.refl _ _).alloc (Nat.le_refl _) (.cells #[.string s] 9))) (fun Q u L=>by
        rw [Nat.zero_add]
        exact Zh _ _ _ _ _ (by simpa [Zap] using L)) (by rw [List.length_map,List.length_take];omega) (by simp;omega)
       have M:=Za (And.intro p2 (And.intro p3 d))
       clear p2 p3 K d)
    | (at_builtin;refine Lib.wpList_append_run _ rfl _ _ _ _ rfl _ _ rfl rfl _ _ p1 ?_))
   go_roundw
   case rel =>
    obtain ⟨p2,p3,d⟩:=M.out
    refine ⟨j+1,by omega,by go_num,?_,?_⟩
    ·have F:=b.out.trans (r.out.mono b.out.size)
     have C:=F.trans (d.mono F.size)
     have I:Below w.heap.size w (A.alloc (.cells #[.string s] 9)):=C.alloc C.size _
     exact I.trans p3
    ·rw [List.take_add_one,O.out,List.map_append]
     exact p2
   case measure=>simp [intOf];omega
  ·have k:¬ (j:Int)<m:=by omega
   have o:=h.out
   rw [List.take_of_length_le (by have:=E.out;omega)] at o
   have o:=Za o
   go_wp2_with fail
   go_ret
   exact ⟨_,rfl,o.out,b.out⟩
end Go.Proofs.YthfilnflgahcjaaGreatDoor

