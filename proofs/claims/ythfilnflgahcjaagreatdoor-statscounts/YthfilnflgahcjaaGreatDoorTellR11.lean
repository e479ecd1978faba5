/- The statement that tells a map, operation by operation, in whatever order. -/
import Derived.Test.YthfilnflgahcjaaGreatDoorJoin28
import Derived.Test.YthfilnflgahcjaaGreatDoorJoin10
import Derived.Deep.AppendLies
namespace Go.Proofs.YthfilnflgahcjaaGreatDoor
open Go.RowKit Go.Shelf Go.WideShapes Go.Lib
set_option linter.all false
noncomputable def Zd5:Array Oper:=Ze0 Tryz.f152 11
def Zqb (i:Nat):List Nat:=([[],[],[0,1],[],[0,1,2,3],[],[0,1,2,3,4,5],[0,1,2,3,4,5,6]]:List (List Nat)).getD i []
def Jfy (v:Value) (p0:Int) (p1:Bool) (p2:Int) (p3:ByteArray) (pa:Option Addr) (pn pc:Nat) (pb:Option Addr) (pm pd:Nat) (i:Nat) (u:Value):Prop:=([fun u=>u=(v),fun u=>∃ t,u=.slice (some ⟨t,0,none⟩) 1 1,fun _=>True,fun u=>u=(.agg #[.int .i64 p0,.bool p1,.int .i64 p2,.string p3,.slice pa pn pc,.slice pb pm pd]),fun _=>True,fun u=>∃ t,u=.slice (some ⟨t,0,none⟩) 1 1,fun _=>True,fun _=>True]:List (Value->Prop)).getD i (fun _=>True) u
structure Jcq (q base n:Nat) (v:Value) (xs:List Value) (p0:Int) (p1:Bool) (p2:Int) (p3:ByteArray) (pa:Option Addr) (pn pc:Nat) (pb:Option Addr) (pm pd:Nat) (A:List UInt8) (w0:World) (l:Nat->Bool) (vs:Nat->Value) (w:World):Prop where
 told:l 6=false->Zaa base n xs v w0 (if l 4 then [123]++A else if l 2 then [123] else []) (if l 4 then vs 4 else if l 2 then vs 2 else v) w
 opened:l 1=true->l 2=false->∃ t,vs 1=.slice (some ⟨t,0,none⟩) 1 1/\w.cell? ⟨t,0,none⟩=some (.int .u8 123)
 closed:l 5=true->l 6=false->∃ t,vs 5=.slice (some ⟨t,0,none⟩) 1 1/\w.cell? ⟨t,0,none⟩=some (.int .u8 125)/\some t≠Value.ownBlock (if l 4 then vs 4 else if l 2 then vs 2 else v)
 done:l 6=true->Zaa base n xs v w0 ([123]++A++[125]) (vs 6) w
 last:l 7=true->vs 7=vs 6
theorem Jcq.lift {q base n:Nat} {v:Value} {xs:List Value} {p0:Int} {p1:Bool} {p2:Int} {p3:ByteArray} {pa:Option Addr} {pn pc:Nat} {pb:Option Addr} {pm pd:Nat} {A:List UInt8} {w0:World} {l:Nat->Bool} {vs:Nat->Value} {w:World} (h:Jcq q base n v xs p0 p1 p2 p3 pa pn pc pb pm pd A w0 l vs w) {i:Nat} (u:Value) (hi:i=0\/i=3):Jcq q base n v xs p0 p1 p2 p3 pa pn pc pb pm pd A w0 (upd l i true) (upd vs i u) w:=by
 have e1:upd l i true 1=l 1:=Zb _ _ (by omega)
 have e2:upd l i true 2=l 2:=Zb _ _ (by omega)
 have e4:upd l i true 4=l 4:=Zb _ _ (by omega)
 have e5:upd l i true 5=l 5:=Zb _ _ (by omega)
 have e6:upd l i true 6=l 6:=Zb _ _ (by omega)
 have e7:upd l i true 7=l 7:=Zb _ _ (by omega)
 have f1:upd vs i u 1=vs 1:=Zb _ _ (by omega)
 have f2:upd vs i u 2=vs 2:=Zb _ _ (by omega)
 have f4:upd vs i u 4=vs 4:=Zb _ _ (by omega)
 have f5:upd vs i u 5=vs 5:=Zb _ _ (by omega)
 have f6:upd vs i u 6=vs 6:=Zb _ _ (by omega)
 have f7:upd vs i u 7=vs 7:=Zb _ _ (by omega)
 exact ⟨by rw [e6,e4,e2,f4,f2];exact h.told,by rw [e1,e2,f1];exact h.opened,by rw [e5,e6,f5,e4,e2,f4,f2];exact h.closed,by rw [e6,f6];exact h.done,by rw [e7,f7,f6];exact h.last⟩
structure Jhu (q base n:Nat) (v:Value) (xs:List Value) (p0:Int) (p1:Bool) (p2:Int) (p3:ByteArray) (pa:Option Addr) (pn pc:Nat) (pb:Option Addr) (pm pd:Nat) (A:List UInt8) (w0:World) (c:Act):Prop where
 t0:c.eval (.tmp 0)=v
 t3:c.eval (.tmp 3)=.pointer (some ⟨q,0,none⟩)
 size:c.tmps.size=63
structure Jhv (q base n:Nat) (v:Value) (xs:List Value) (p0:Int) (p1:Bool) (p2:Int) (p3:ByteArray) (pa:Option Addr) (pn pc:Nat) (pb:Option Addr) (pm pd:Nat) (A:List UInt8) (w0:World):Prop where
 box:w0.heap[q]?=some (.cells #[.int .i64 p0,.bool p1,.int .i64 p2,.string p3,.slice pa pn pc,.slice pb pm pd] 88 (0,0))
 own:w0.ownsRow base 5 1 v n xs
 few:n+A.length<=1000000000
 low:base<=w0.heap.size
 call:∀ u a6 m w,w.ownsRow base 5 1 u m a6->base<=w.heap.size->Below base w0 w->m<=n+1->Calls Tryz.prog 204 #[u,.agg #[.int .i64 p0,.bool p1,.int .i64 p2,.string p3,.slice pa pn pc,.slice pb pm pd]] w fun e w'=>∃ v',e=.returned v'/\Zaa base m a6 u w A v' w'
def Zgb (q base n:Nat) (v:Value) (xs:List Value) (p0:Int) (p1:Bool) (p2:Int) (p3:ByteArray) (pa:Option Addr) (pn pc:Nat) (pb:Option Addr) (pm pd:Nat) (A:List UInt8) (w0:World) (Q:Exit->Act->World->Prop) (i:Nat):Prop:=∀ (l:Nat->Bool) (c:Act) (w:World),(Jhu q base n v xs p0 p1 p2 p3 pa pn pc pb pm pd A w0 c)->(Jhv q base n v xs p0 p1 p2 p3 pa pn pc pb pm pd A w0)->(l i=false)->(∀ k,l k=true->∀ j ∈ Zqb k,l j=true)->(∀ j ∈ Zqb i,l j=true/\Jfy v p0 p1 p2 p3 pa pn pc pb pm pd j (val Zd5 c j))->(Jcq q base n v xs p0 p1 p2 p3 pa pn pc pb pm pd A w0 l (val Zd5 c) w)->Zd2 Tryz.prog Zd5 Q (Jfy v p0 p1 p2 p3 pa pn pc pb pm pd) (Jcq q base n v xs p0 p1 p2 p3 pa pn pc pb pm pd A w0) i l c w
theorem Zqc {i:Nat} {o:Oper} {c:Act} (B:Zd5[i]?=some o) (h:o.guard=none):Region.wanted o (yielded Zd5 c.tmps)=true:=Zf h
section
variable (q base n:Nat) (v:Value) (xs:List Value) (p0:Int) (p1:Bool) (p2:Int) (p3:ByteArray) (pa:Option Addr) (pn pc:Nat) (pb:Option Addr) (pm pd:Nat) (A:List UInt8) (w0:World) (Q:Exit->Act->World->Prop)
set_option maxRecDepth 10000 in
theorem Jfz:Zgb q base n v xs p0 p1 p2 p3 pa pn pc pb pm pd A w0 Q 0:=by
 intro l c w hb x b r C y
 have B:Zd5[0]?=some (⟨some 36,.move (.tmp 0),116, "text.go:50",#[],none⟩:Oper):=by kernel_rfl
 have e0:=hb.t0
 have E:=Zqc (c:=c) B rfl
 have ec:∀ v,c.eval (.const v)=v:=fun _=>rfl
 have ef:∀ f,c.eval (.func f)=.func (.func f) #[] #[]:=fun _=>rfl
 refine Zr (d:=36) B rfl (by rw [hb.size];decide) E (v:=v) ?_ rfl (y.lift _ (by decide))
 generalize c.eval=ρ at *
 clear C hb x E B y r b
 go_simp
set_option maxRecDepth 10000 in
theorem Jf0:Zgb q base n v xs p0 p1 p2 p3 pa pn pc pb pm pd A w0 Q 1:=by
 intro l c w hb x b r C y
 have B:Zd5[1]?=some (⟨some 37,.buildSlice 116 1 #[(0,.const (Value.int .u8 123))],116, "text.go:50",#[],none⟩:Oper):=by kernel_rfl
 have E:=Zqc (c:=c) B rfl
 have ec:∀ v,c.eval (.const v)=v:=fun _=>rfl
 have ef:∀ f,c.eval (.func f)=.func (.func f) #[] #[]:=fun _=>rfl
 have n2:l 2=false:=by
  cases h:l 2 with
  | false=>rfl
  | true=>have:=r 2 h 1 (by decide);rw [b] at this;cases this
 have n4:l 4=false:=by
  cases h:l 4 with
  | false=>rfl
  | true=>have:=r 4 h 1 (by decide);rw [b] at this;cases this
 have n6:l 6=false:=by
  cases h:l 6 with
  | false=>rfl
  | true=>have:=r 6 h 1 (by decide);rw [b] at this;cases this
 have s:=y.told n6
 have N:Below w.heap.size w (w.alloc (.cells #[.int .u8 123] 5)):=(Below.refl _ _).alloc (Nat.le_refl _) _
 refine Zr (d:=37) B rfl (by rw [hb.size];decide) E (v:=.slice (some ⟨w.heap.size,0,none⟩) 1 1) (w':=w.alloc (.cells #[.int .u8 123] 5)) ?_ ⟨_,rfl⟩ ?_
 ·generalize c.eval=ρ at *
  clear C hb x E B y r b s
  go_simp
 ·have a0:some w.heap.size≠Value.ownBlock (if l 4 then val Zd5 c 4 else if l 2 then val Zd5 c 2 else v):=fun e=>by
   have:=(s.own.lt _ e.symm).2
   omega
  refine ⟨fun _=>?_,fun _ _=>⟨w.heap.size,by rw [Ja],Zh _ _ _ 0 _ rfl⟩,fun X _=>?_,fun h=>?_,fun h=>?_⟩
  ·rw [Zb _ _ (show (4:Nat)≠1 by decide),Zb _ _ (show (2:Nat)≠1 by decide),Zb _ _ (show (4:Nat)≠1 by decide),Zb _ _ (show (2:Nat)≠1 by decide)]
   exact s.upto N
  ·rw [Zb _ _ (by decide)] at X
   obtain ⟨t,R,D,M⟩:=y.closed X n6
   rw [Zb _ _ (show (4:Nat)≠1 by decide),Zb _ _ (show (2:Nat)≠1 by decide),Zb _ _ (show (4:Nat)≠1 by decide),Zb _ _ (show (2:Nat)≠1 by decide),Zb _ _ (show (5:Nat)≠1 by decide)]
   exact ⟨t,R,(N.cell (p:=⟨t,0,none⟩) (Jj D)).trans D,M⟩
  ·rw [Zb _ _ (by decide),n6] at h;cases h
  ·rw [Zb _ _ (by decide)] at h
   have:=r 7 h 6 (by decide)
   rw [n6] at this;cases this
set_option maxRecDepth 10000 in
theorem Jf1:Zgb q base n v xs p0 p1 p2 p3 pa pn pc pb pm pd A w0 Q 2:=by
 intro l c w hb x b r C y
 have B:Zd5[2]?=some (⟨some 38,.call { callee:=.builtin .append,args:=#[.tmp 36,.tmp 37],argTypes:=#[116,116] },116, "text.go:50",#[⟨0,.data⟩,⟨1,.data⟩],none⟩:Oper):=by kernel_rfl
 have a8:c.eval (.tmp 36)=v:=by have h:=(C 0 (by decide)).2;rw [Jl (show Zo Zd5 0=some 36 by kernel_rfl)] at h;exact h
 have a7:c.eval (.tmp 37)=val Zd5 c 1:=(Jl (show Zo Zd5 1=some 37 by kernel_rfl)).symm
 have E:=Zqc (c:=c) B rfl
 have ec:∀ v,c.eval (.const v)=v:=fun _=>rfl
 have ef:∀ f,c.eval (.func f)=.func (.func f) #[] #[]:=fun _=>rfl
 have n4:l 4=false:=by
  cases h:l 4 with
  | false=>rfl
  | true=>have:=r 4 h 2 (by decide);rw [b] at this;cases this
 have n6:l 6=false:=by
  cases h:l 6 with
  | false=>rfl
  | true=>have:=r 6 h 2 (by decide);rw [b] at this;cases this
 have s:=y.told n6
 rw [n4,b] at s
 simp only [Bool.false_eq_true,if_false] at s
 obtain ⟨t,ht,F⟩:=y.opened (C 1 (by decide)).1 b
 obtain ⟨i0,hi,a3,a2,a1⟩:=info_parts Tryz.info5
 have a5:w.ownsRow base 5 1 v n xs:=by have:=s.own;simpa [byteCells] using this
 have I:=s.grown.size
 refine Zbw (d:=38) B rfl (by rw [hb.size];decide) fun K hK=>?_
 refine step_append_lies w rfl (.tmp 36) (.tmp 37) 116 rfl base 5 i0 (.int .u8 0) 1 1 Tryz.underlying116 hi a3 a2 a1 rfl (by decide) v n xs a8 a5 ⟨t,0,none⟩ 1 1 [.int .u8 123] (a7.trans ht) rfl ?_ ?_ (by decide) (by have:=x.few;unfold maxLen;omega) (by have:=x.few;omega) (Nat.le_trans x.low I) w.heap.size rfl ?_
 ·intro j u T
  match j,T with
  | 0,T =>
   simp only [List.getElem?_cons_zero,Option.some.injEq] at T
   subst T
   rw [Lib.add_plain];exact F
 ·intro u hu
  simp only [List.mem_cons,List.not_mem_nil,or_false] at hu
  subst hu;rfl
 ·intro g cap w' g1 g2 L g4
  have O:Zaa base n xs v w [123] (.slice (some ⟨g,0,none⟩) (n+1) cap) w':=⟨g1,g2,L.elim (fun e=>.inl e.symm) fun e=>.inr ⟨g,rfl,by omega⟩⟩
  have H:Zaa base n xs v w0 [123] (.slice (some ⟨g,0,none⟩) (n+1) cap) w':=by
   have R:Zaa base n xs v w0 [] v w:=s
   have D:=R.trans (v2:=.slice (some ⟨g,0,none⟩) (n+1) cap) (w2:=w') (cs:=[123]) (by simpa [byteCells] using O)
   simpa using D
  refine hK _ _ trivial ⟨fun _=>?_,fun _ h=>?_,fun X _=>?_,fun h=>?_,fun h=>?_⟩
  ·rw [Zb _ _ (show (4:Nat)≠2 by decide),n4,Ja,Ja]
   exact H
  ·rw [Ja] at h;cases h
  ·rw [Zb _ _ (by decide)] at X
   obtain ⟨P,R,D,M⟩:=y.closed X n6
   rw [n4,b] at M
   rw [Zb _ _ (show (4:Nat)≠2 by decide),n4,Ja,Ja,Zb _ _ (show (5:Nat)≠2 by decide)]
   refine ⟨P,R,(World.cell?_of_block (g2.block P (Jj D) M)).trans D,fun e=>?_⟩
   have e':P=g:=by simpa [Value.ownBlock] using e
   have:=Jj D
   have b3:P<w.heap.size:=this
   rcases L with L | L
   ·exact M (by rw [e'];exact L.symm)
   ·omega
  ·rw [Zb _ _ (by decide),n6] at h;cases h
  ·rw [Zb _ _ (by decide)] at h
   have:=r 7 h 6 (by decide)
   rw [n6] at this;cases this
set_option maxRecDepth 10000 in
theorem Jf2:Zgb q base n v xs p0 p1 p2 p3 pa pn pc pb pm pd A w0 Q 3:=by
 intro l c w hb x b r C y
 have B:Zd5[3]?=some (⟨some 39,.load 88 (.tmp 3),88, "text.go:50",#[],none⟩:Oper):=by kernel_rfl
 have e3:=hb.t3
 have E:=Zqc (c:=c) B rfl
 have ec:∀ v,c.eval (.const v)=v:=fun _=>rfl
 have ef:∀ f,c.eval (.func f)=.func (.func f) #[] #[]:=fun _=>rfl
 have n4:l 4=false:=by
  cases h:l 4 with
  | false=>rfl
  | true=>have:=r 4 h 3 (by decide);rw [b] at this;cases this
 have n6:l 6=false:=by
  cases h:l 6 with
  | false=>rfl
  | true=>have:=r 6 h 3 (by decide);rw [b] at this;cases this
 obtain ⟨y0,y1,y2,y3,y4,y5⟩:=boxes (y.told n6) x.own x.box
 refine Zr (d:=39) B rfl (by rw [hb.size];decide) E (v:=.agg #[.int .i64 p0,.bool p1,.int .i64 p2,.string p3,.slice pa pn pc,.slice pb pm pd]) ?_ rfl (y.lift _ (by decide))
 generalize c.eval=ρ at *
 clear C hb x E B y r b
 go_simp
set_option maxRecDepth 10000 in
theorem Jf3:Zgb q base n v xs p0 p1 p2 p3 pa pn pc pb pm pd A w0 Q 4:=by
 intro l c w hb x b r C y
 have B:Zd5[4]?=some (⟨some 40,.call { callee:=.value (.func 204),args:=#[.tmp 38,.tmp 39],argTypes:=#[116,88] },116, "text.go:50",#[⟨2,.data⟩,⟨3,.data⟩,⟨2,.chain⟩],none⟩:Oper):=by kernel_rfl
 have b1:c.eval (.tmp 38)=val Zd5 c 2:=(Jl (show Zo Zd5 2=some 38 by kernel_rfl)).symm
 have b5:c.eval (.tmp 39)=.agg #[.int .i64 p0,.bool p1,.int .i64 p2,.string p3,.slice pa pn pc,.slice pb pm pd]:=by have h:=(C 3 (by decide)).2;rw [Jl (show Zo Zd5 3=some 39 by kernel_rfl)] at h;exact h
 have E:=Zqc (c:=c) B rfl
 have ec:∀ v,c.eval (.const v)=v:=fun _=>rfl
 have ef:∀ f,c.eval (.func f)=.func (.func f) #[] #[]:=fun _=>rfl
 have n6:l 6=false:=by
  cases h:l 6 with
  | false=>rfl
  | true=>have:=r 6 h 4 (by decide);rw [b] at this;cases this
 have D:l 2=true:=(C 2 (by decide)).1
 have s:=y.told n6
 rw [b,D] at s
 simp only [Bool.false_eq_true,if_false,if_true] at s
 have I:=s.grown.size
 refine Zgn (d:=40) B rfl (by rw [hb.size];decide) E (f:=204) (args:=#[val Zd5 c 2,.agg #[.int .i64 p0,.bool p1,.int .i64 p2,.string p3,.slice pa pn pc,.slice pb pm pd]]) ?_ ?_
 ·generalize val Zd5 c 2=z at *
  generalize c.eval=ρ at *
  clear C hb x E B y r b s
  go_simp
 ·refine (x.call _ _ _ w s.own (Nat.le_trans x.low I) (s.below x.own x.low) (Nat.le_refl _)).mono ?_
  rintro e w' ⟨v',rfl,ht⟩
  refine ⟨v',rfl,trivial,⟨fun _=>?_,fun _ h=>?_,fun X _=>?_,fun h=>?_,fun h=>?_⟩⟩
  ·rw [Ja,Ja]
   exact s.trans ht
  ·rw [Zb _ _ (by decide),D] at h;cases h
  ·rw [Zb _ _ (by decide)] at X
   obtain ⟨P,R,V,M⟩:=y.closed X n6
   rw [b,D] at M
   rw [Ja,Ja,Zb _ _ (show (5:Nat)≠4 by decide)]
   refine ⟨P,R,(World.cell?_of_block (ht.grown.block P (Jj V) M)).trans V,fun e=>?_⟩
   have b4:P<w.heap.size:=Jj V
   rcases ht.place with L | ⟨g,L,g5⟩
   ·exact M (e.trans L)
   ·have e2:some P=some g:=e.trans L
    have:P=g:=by simpa using e2
    omega
  ·rw [Zb _ _ (by decide),n6] at h;cases h
  ·rw [Zb _ _ (by decide)] at h
   have:=r 7 h 6 (by decide)
   rw [n6] at this;cases this
set_option maxRecDepth 10000 in
theorem Jf4:Zgb q base n v xs p0 p1 p2 p3 pa pn pc pb pm pd A w0 Q 5:=by
 intro l c w hb x b r C y
 have B:Zd5[5]?=some (⟨some 41,.buildSlice 116 1 #[(0,.const (Value.int .u8 125))],116, "text.go:50",#[],none⟩:Oper):=by kernel_rfl
 have E:=Zqc (c:=c) B rfl
 have ec:∀ v,c.eval (.const v)=v:=fun _=>rfl
 have ef:∀ f,c.eval (.func f)=.func (.func f) #[] #[]:=fun _=>rfl
 have n6:l 6=false:=by
  cases h:l 6 with
  | false=>rfl
  | true=>have:=r 6 h 5 (by decide);rw [b] at this;cases this
 have s:=y.told n6
 have N:Below w.heap.size w (w.alloc (.cells #[.int .u8 125] 5)):=(Below.refl _ _).alloc (Nat.le_refl _) _
 refine Zr (d:=41) B rfl (by rw [hb.size];decide) E (v:=.slice (some ⟨w.heap.size,0,none⟩) 1 1) (w':=w.alloc (.cells #[.int .u8 125] 5)) ?_ ⟨_,rfl⟩ ?_
 ·generalize c.eval=ρ at *
  clear C hb x E B y r b s
  go_simp
 ·have a0:some w.heap.size≠Value.ownBlock (if l 4 then val Zd5 c 4 else if l 2 then val Zd5 c 2 else v):=fun e=>by
   have:=(s.own.lt _ e.symm).2
   omega
  refine ⟨fun _=>?_,fun R D=>?_,fun _ _=>⟨w.heap.size,by rw [Ja],Zh _ _ _ 0 _ rfl,?_⟩,fun h=>?_,fun h=>?_⟩
  ·rw [Zb _ _ (show (4:Nat)≠5 by decide),Zb _ _ (show (2:Nat)≠5 by decide),Zb _ _ (show (4:Nat)≠5 by decide),Zb _ _ (show (2:Nat)≠5 by decide)]
   exact s.upto N
  ·rw [Zb _ _ (by decide)] at R D
   obtain ⟨t,M,V⟩:=y.opened R D
   rw [Zb _ _ (by decide)]
   exact ⟨t,M,(N.cell (p:=⟨t,0,none⟩) (Jj V)).trans V⟩
  ·rw [Zb _ _ (show (4:Nat)≠5 by decide),Zb _ _ (show (2:Nat)≠5 by decide),Zb _ _ (show (4:Nat)≠5 by decide),Zb _ _ (show (2:Nat)≠5 by decide)]
   exact a0
  ·rw [Zb _ _ (by decide),n6] at h;cases h
  ·rw [Zb _ _ (by decide)] at h
   have:=r 7 h 6 (by decide)
   rw [n6] at this;cases this
set_option maxRecDepth 10000 in
theorem Jf5:Zgb q base n v xs p0 p1 p2 p3 pa pn pc pb pm pd A w0 Q 6:=by
 intro l c w hb x b r C y
 have B:Zd5[6]?=some (⟨some 42,.call { callee:=.builtin .append,args:=#[.tmp 40,.tmp 41],argTypes:=#[116,116] },116, "text.go:50",#[⟨4,.data⟩,⟨5,.data⟩,⟨4,.chain⟩],none⟩:Oper):=by kernel_rfl
 have b0:c.eval (.tmp 40)=val Zd5 c 4:=(Jl (show Zo Zd5 4=some 40 by kernel_rfl)).symm
 have a9:c.eval (.tmp 41)=val Zd5 c 5:=(Jl (show Zo Zd5 5=some 41 by kernel_rfl)).symm
 have E:=Zqc (c:=c) B rfl
 have ec:∀ v,c.eval (.const v)=v:=fun _=>rfl
 have ef:∀ f,c.eval (.func f)=.func (.func f) #[] #[]:=fun _=>rfl
 have V:l 4=true:=(C 4 (by decide)).1
 have D:l 2=true:=(C 2 (by decide)).1
 have s:=y.told b
 rw [V] at s
 simp only [if_true] at s
 obtain ⟨t,ht,F,a0⟩:=y.closed (C 5 (by decide)).1 b
 obtain ⟨i0,hi,a3,a2,a1⟩:=info_parts Tryz.info5
 have I:=s.grown.size
 have Y:([123]++A).length=A.length+1:=by simp
 refine Zbw (d:=42) B rfl (by rw [hb.size];decide) fun K hK=>?_
 refine step_append_lies w rfl (.tmp 40) (.tmp 41) 116 rfl base 5 i0 (.int .u8 0) 1 1 Tryz.underlying116 hi a3 a2 a1 rfl (by decide) _ (n+([123]++A).length) _ b0 s.own ⟨t,0,none⟩ 1 1 [.int .u8 125] (a9.trans ht) rfl ?_ ?_ (by decide) (by have:=x.few;rw [Y];unfold maxLen;omega) (by have:=x.few;rw [Y];omega) (Nat.le_trans x.low I) w.heap.size rfl ?_
 ·intro j u T
  match j,T with
  | 0,T =>
   simp only [List.getElem?_cons_zero,Option.some.injEq] at T
   subst T
   rw [Lib.add_plain];exact F
 ·intro u hu
  simp only [List.mem_cons,List.not_mem_nil,or_false] at hu
  subst hu;rfl
 ·intro g cap w' g1 g2 L g4
  have O:Zaa base (n+([123]++A).length) (xs++byteCells ([123]++A)) (val Zd5 c 4) w [125] (.slice (some ⟨g,0,none⟩) (n+([123]++A).length+1) cap) w':=⟨g1,g2,L.elim (fun e=>.inl e.symm) fun e=>.inr ⟨g,rfl,by omega⟩⟩
  refine hK _ _ trivial ⟨fun h=>?_,fun _ h=>?_,fun _ h=>?_,fun _=>?_,fun h=>?_⟩
  ·rw [Ja] at h;cases h
  ·rw [Zb _ _ (by decide),D] at h;cases h
  ·rw [Ja] at h;cases h
  ·rw [Ja]
   exact s.trans O
  ·rw [Zb _ _ (by decide)] at h
   have:=r 7 h 6 (by decide)
   rw [b] at this;cases this
set_option maxRecDepth 10000 in
theorem Jf6:Zgb q base n v xs p0 p1 p2 p3 pa pn pc pb pm pd A w0 Q 7:=by
 intro l c w hb x b r C y
 have B:Zd5[7]?=some (⟨some 4,.assign (.tmp 42),116, "text.go:50",#[⟨6,.data⟩,⟨6,.chain⟩,⟨0,.phase⟩,⟨1,.phase⟩,⟨2,.phase⟩,⟨3,.phase⟩,⟨4,.phase⟩,⟨5,.phase⟩,⟨6,.phase⟩],none⟩:Oper):=by kernel_rfl
 have b2:c.eval (.tmp 42)=val Zd5 c 6:=(Jl (show Zo Zd5 6=some 42 by kernel_rfl)).symm
 have E:=Zqc (c:=c) B rfl
 have ec:∀ v,c.eval (.const v)=v:=fun _=>rfl
 have ef:∀ f,c.eval (.func f)=.func (.func f) #[] #[]:=fun _=>rfl
 have h6:l 6=true:=(C 6 (by decide)).1
 have D:l 2=true:=(C 2 (by decide)).1
 refine Zr (d:=4) B rfl (by rw [hb.size];decide) E (v:=val Zd5 c 6) (w':=w) ?_ trivial ⟨fun h=>?_,fun _ h=>?_,fun _ h=>?_,fun _=>?_,fun _=>?_⟩
 ·generalize val Zd5 c 6=z at *
  generalize c.eval=ρ at *
  clear C hb x E B y r b
  go_simp
 ·rw [Zb _ _ (by decide),h6] at h;cases h
 ·rw [Zb _ _ (by decide),D] at h;cases h
 ·rw [Zb _ _ (by decide),h6] at h;cases h
 ·rw [Zb _ _ (by decide)];exact y.done h6
 ·rw [Ja,Zb _ _ (by decide)]
end
set_option maxRecDepth 100000 in
theorem Jf7 (q base n:Nat) (v:Value) (xs:List Value) (p0:Int) (p1:Bool) (p2:Int) (p3:ByteArray) (pa:Option Addr) (pn pc:Nat) (pb:Option Addr) (pm pd:Nat) (A:List UInt8) (w0:World) (Q:Exit->Act->World->Prop) (x:Jhv q base n v xs p0 p1 p2 p3 pa pn pc pb pm pd A w0):∀ i,i<8->(fun i=>∀ l c w,Jhu q base n v xs p0 p1 p2 p3 pa pn pc pb pm pd A w0 c->l i=false->(∀ k,l k=true->∀ j ∈ Zqb k,l j=true)->(∀ j ∈ Zqb i,l j=true/\Jfy v p0 p1 p2 p3 pa pn pc pb pm pd j (val Zd5 c j))->Jcq q base n v xs p0 p1 p2 p3 pa pn pc pb pm pd A w0 l (val Zd5 c) w->Zd2 Tryz.prog Zd5 Q (Jfy v p0 p1 p2 p3 pa pn pc pb pm pd) (Jcq q base n v xs p0 p1 p2 p3 pa pn pc pb pm pd A w0) i l c w) i:=by
 refine Ju ?_ (fun l c w hb=>Jf6 q base n v xs p0 p1 p2 p3 pa pn pc pb pm pd A w0 Q l c w hb x)
 refine Ju ?_ (fun l c w hb=>Jf5 q base n v xs p0 p1 p2 p3 pa pn pc pb pm pd A w0 Q l c w hb x)
 refine Ju ?_ (fun l c w hb=>Jf4 q base n v xs p0 p1 p2 p3 pa pn pc pb pm pd A w0 Q l c w hb x)
 refine Ju ?_ (fun l c w hb=>Jf3 q base n v xs p0 p1 p2 p3 pa pn pc pb pm pd A w0 Q l c w hb x)
 refine Ju ?_ (fun l c w hb=>Jf2 q base n v xs p0 p1 p2 p3 pa pn pc pb pm pd A w0 Q l c w hb x)
 refine Ju ?_ (fun l c w hb=>Jf1 q base n v xs p0 p1 p2 p3 pa pn pc pb pm pd A w0 Q l c w hb x)
 refine Ju ?_ (fun l c w hb=>Jf0 q base n v xs p0 p1 p2 p3 pa pn pc pb pm pd A w0 Q l c w hb x)
 refine Ju ?_ (fun l c w hb=>Jfz q base n v xs p0 p1 p2 p3 pa pn pc pb pm pd A w0 Q l c w hb x)
 exact Zmj
theorem Zxv (q base n:Nat) (v:Value) (xs:List Value) (p0:Int) (p1:Bool) (p2:Int) (p3:ByteArray) (pa:Option Addr) (pn pc:Nat) (pb:Option Addr) (pm pd:Nat) (A:List UInt8) (w0:World) (Q:Exit->Act->World->Prop) (frame:Act) (hb:Jhu q base n v xs p0 p1 p2 p3 pa pn pc pb pm pd A w0 frame) (x:Jhv q base n v xs p0 p1 p2 p3 pa pn pc pb pm pd A w0)
  (hQ:∀ c v' W,Zl2 Zd5 frame c->c.eval (.tmp 4)=v'->Zaa base n xs v w0 ([123]++A++[125]) v' W->Q .normal c W) :
  (Code.region 11 Zd5 true).wp Tryz.prog Q frame w0:=by
 refine Zdk (A:=Zqb) (G:=Jfy v p0 p1 p2 p3 pa pn pc pb pm pd) (S:=Jcq q base n v xs p0 p1 p2 p3 pa pn pc pb pm pd A w0) (by kernel_rfl) (by rw [hb.size];kernel_rfl) ?_ ?_ ?_
 ·exact ⟨fun _=>(Zdf x.own).upto (Below.refl _ _).drew,(fun h=>by cases h),(fun h=>by cases h),(fun h=>by cases h),(fun h=>by cases h)⟩
 ·intro i hi l c w y b r C U
  exact Jf7 q base n v xs p0 p1 p2 p3 pa pn pc pb pm pd A w0 Q x i (by rwa [show Zd5.size=8 by kernel_rfl] at hi) l c w ⟨(Za2 y (by kernel_rfl)).trans hb.t0,(Za2 y (by kernel_rfl)).trans hb.t3,y.2.1.trans hb.size⟩ b r C U
 ·intro l c w y H U
  have a4:Zd5.size=8:=by kernel_rfl
  have h7:=U.last (H 7 (by rw [a4];omega)).1
  have h6:=U.done (H 6 (by rw [a4];omega)).1
  have e7:c.eval (.tmp 4)=val Zd5 c 7:=(Jl (show Zo Zd5 7=some 4 by kernel_rfl)).symm
  exact hQ c _ w y (e7.trans h7) h6
end Go.Proofs.YthfilnflgahcjaaGreatDoor
