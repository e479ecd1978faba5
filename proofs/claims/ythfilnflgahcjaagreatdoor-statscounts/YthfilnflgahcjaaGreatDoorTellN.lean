/- The statements that tell nodes and relationships, operation by operation, in whatever order. -/
import Derived.Test.YthfilnflgahcjaaGreatDoorJoin29
import Derived.Test.YthfilnflgahcjaaGreatDoorJoin28
namespace Go.Proofs.YthfilnflgahcjaaGreatDoor
open Go.RowKit Go.Shelf Go.Lib
set_option linter.all false
noncomputable def Zfn:Array Oper:=Ze0 Tryz.f152 13
def Zzb (i:Nat):List Nat:=([[],[0],[],[2],[0,1,2,3],[],[0,1,2,3,4,5],[0,1,2,3,4,5,6]]:List (List Nat)).getD i []
def Zax (q base n:Nat) (v:Value) (xs:List Value) (p0:Int) (p1:Bool) (p2:Int) (p3:ByteArray) (pa:Option Addr) (pn pc:Nat) (pb:Option Addr) (pm pd:Nat) (w0:World):Zad:=⟨[1,4,6,7],[[60,110],itoa p2,[62],[]],[(5,[62])]⟩
def Jim (q base n:Nat) (v:Value) (xs:List Value) (p0:Int) (p1:Bool) (p2:Int) (p3:ByteArray) (pa:Option Addr) (pn pc:Nat) (pb:Option Addr) (pm pd:Nat) (w0:World) (i:Nat) (u:Value):Prop:=([fun u=>u=(v),fun _=>True,fun u=>u=(.pointer (some ⟨q,2,none⟩)),fun u=>u=(.int .i64 p2),fun _=>True,fun _=>True,fun _=>True,fun _=>True]:List (Value->Prop)).getD i (fun _=>True) u
structure Jiw (q base n:Nat) (v:Value) (xs:List Value) (p0:Int) (p1:Bool) (p2:Int) (p3:ByteArray) (pa:Option Addr) (pn pc:Nat) (pb:Option Addr) (pm pd:Nat) (w0:World) (c:Act):Prop where
 t0:c.eval (.tmp 0)=v
 t3:c.eval (.tmp 3)=.pointer (some ⟨q,0,none⟩)
 size:c.tmps.size=63
structure Jix (q base n:Nat) (v:Value) (xs:List Value) (p0:Int) (p1:Bool) (p2:Int) (p3:ByteArray) (pa:Option Addr) (pn pc:Nat) (pb:Option Addr) (pm pd:Nat) (w0:World):Prop where
 own:w0.ownsRow base 5 1 v n xs
 low:base<=w0.heap.size
 few:n<=100000000000
 short:(itoa p2).length<=21
 box:w0.heap[q]?=some (.cells #[.int .i64 p0,.bool p1,.int .i64 p2,.string p3,.slice pa pn pc,.slice pb pm pd] 88 (0,0))
 call:∀ u L m w,w.ownsRow base 5 1 u m L->base<=w.heap.size->Below base w0 w->m<=n+2->Calls Tryz.prog 202 #[u,.int .i64 p2,.int .i64 10] w fun e w'=>∃ F,e=.returned F/\Zaa base m L u w (itoa p2) F w'
theorem Ziw (q base n:Nat) (v:Value) (xs:List Value) (p0:Int) (p1:Bool) (p2:Int) (p3:ByteArray) (pa:Option Addr) (pn pc:Nat) (pb:Option Addr) (pm pd:Nat) (w0:World):(Zax q base n v xs p0 p1 p2 p3 pa pn pc pb pm pd w0).apart=true:=by
 unfold Zad.apart
 rw [Bool.and_eq_true]
 exact ⟨decide_eq_true ⟨by show ([1,4,6,7]:List Nat).Nodup;decide,by show ([5]:List Nat).Nodup;decide,by
  intro s E
  simp only [Zax,List.mem_cons,List.not_mem_nil,or_false] at E
  subst E
  show (5:Nat) ∉ ([1,4,6,7]:List Nat);decide⟩,decide_eq_true rfl⟩
def Zfo (q base n:Nat) (v:Value) (xs:List Value) (p0:Int) (p1:Bool) (p2:Int) (p3:ByteArray) (pa:Option Addr) (pn pc:Nat) (pb:Option Addr) (pm pd:Nat) (w0:World) (Q:Exit->Act->World->Prop) (i:Nat):Prop:=∀ (l:Nat->Bool) (c:Act) (w:World),Jiw q base n v xs p0 p1 p2 p3 pa pn pc pb pm pd w0 c->Jix q base n v xs p0 p1 p2 p3 pa pn pc pb pm pd w0->l i=false->(∀ k,l k=true->∀ j ∈ Zzb k,l j=true)->(∀ j ∈ Zzb i,l j=true/\Jim q base n v xs p0 p1 p2 p3 pa pn pc pb pm pd w0 j (val Zfn c j))->(Zax q base n v xs p0 p1 p2 p3 pa pn pc pb pm pd w0).Far base n v xs w0 l (val Zfn c) w->Zd2 Tryz.prog Zfn Q (Jim q base n v xs p0 p1 p2 p3 pa pn pc pb pm pd w0) ((Zax q base n v xs p0 p1 p2 p3 pa pn pc pb pm pd w0).Far base n v xs w0) i l c w
section
variable (q base n:Nat) (v:Value) (xs:List Value) (p0:Int) (p1:Bool) (p2:Int) (p3:ByteArray) (pa:Option Addr) (pn pc:Nat) (pb:Option Addr) (pm pd:Nat) (w0:World) (Q:Exit->Act->World->Prop)
set_option maxRecDepth 10000 in
theorem Jgp:Zfo q base n v xs p0 p1 p2 p3 pa pn pc pb pm pd w0 Q 0:=by
 intro l c w hb r a g y b
 have z:Zfn[0]?=some (⟨some 45,.move (.tmp 0),116, "text.go:52",#[],none⟩:Oper):=by kernel_rfl
 have B:Region.wanted _ (yielded Zfn c.tmps)=true:=Zf (o:=(⟨some 45,.move (.tmp 0),116, "text.go:52",#[],none⟩:Oper)) rfl
 have e0:=hb.t0
 have ec:∀ v,c.eval (.const v)=v:=fun _=>rfl
 have H:∀ f,c.eval (.func f)=.func (.func f) #[] #[]:=fun _=>rfl
 refine Zr (d:=45) z rfl (by rw [hb.size];decide) B (v:=v) ?_ rfl (b.beside (by show (0:Nat) ∉ ([1,4,6,7]:List Nat);decide) (by intro s E;simp only [Zax,List.mem_cons,List.not_mem_nil,or_false] at E;subst E;show (5:Nat)≠0;decide) _)
 generalize c.eval=ρ at *
 clear y hb r B z b g a
 go_simp
set_option maxRecDepth 10000 in
theorem Jgq:Zfo q base n v xs p0 p1 p2 p3 pa pn pc pb pm pd w0 Q 1:=by
 intro l c w hb r a g y b
 have z:Zfn[1]?=some (⟨some 46,.call { callee:=.builtin .append,args:=#[.tmp 45,.const (Value.string { data:=#[60,110] })],argTypes:=#[116,9] },116, "text.go:52",#[⟨0,.data⟩],none⟩:Oper):=by kernel_rfl
 have B:Region.wanted _ (yielded Zfn c.tmps)=true:=Zf (o:=(⟨some 46,.call { callee:=.builtin .append,args:=#[.tmp 45,.const (Value.string { data:=#[60,110] })],argTypes:=#[116,9] },116, "text.go:52",#[⟨0,.data⟩],none⟩:Oper)) rfl
 have a1:c.eval (.tmp 45)=v:=by have h:=(y 0 (by decide)).2;rw [Jl (show Zo Zfn 0=some 45 by kernel_rfl)] at h;exact h
 have ec:∀ v,c.eval (.const v)=v:=fun _=>rfl
 have H:∀ f,c.eval (.func f)=.func (.func f) #[] #[]:=fun _=>rfl
 obtain ⟨ht,D⟩:=b.at (j:=0) (by show (0:Nat)<4;decide) a (.inl rfl)
 have hB:base<=w.heap.size:=Nat.le_trans r.low ht.grown.size
 have p:=ht.own
 refine Zbw (d:=46) z rfl (by rw [hb.size];decide) fun K M=>?_
 rw [if_pos B]
 refine Zja (.tmp 45) (Operand.const (Value.string { data:=#[60,110] })) rfl a1 rfl p (by decide) (by have:=r.few;show n+_+2<=_;simp [Zad.sofar];omega) hB fun F w' C=>M F w' trivial (b.on (Ziw q base n v xs p0 p1 p2 p3 pa pn pc pb pm pd w0) (j:=0) (by show (0:Nat)<4;decide) a (.inl rfl) C)
set_option maxRecDepth 10000 in
theorem Jgr:Zfo q base n v xs p0 p1 p2 p3 pa pn pc pb pm pd w0 Q 2:=by
 intro l c w hb r a g y b
 have z:Zfn[2]?=some (⟨some 47,.fieldAddr 88 (.tmp 3) 2,0, "text.go:52",#[],none⟩:Oper):=by kernel_rfl
 have B:Region.wanted _ (yielded Zfn c.tmps)=true:=Zf (o:=(⟨some 47,.fieldAddr 88 (.tmp 3) 2,0, "text.go:52",#[],none⟩:Oper)) rfl
 have e3:=hb.t3
 have ec:∀ v,c.eval (.const v)=v:=fun _=>rfl
 have H:∀ f,c.eval (.func f)=.func (.func f) #[] #[]:=fun _=>rfl
 refine Zr (d:=47) z rfl (by rw [hb.size];decide) B (v:=.pointer (some ⟨q,2,none⟩)) ?_ rfl (b.beside (by show (2:Nat) ∉ ([1,4,6,7]:List Nat);decide) (by intro s E;simp only [Zax,List.mem_cons,List.not_mem_nil,or_false] at E;subst E;show (5:Nat)≠2;decide) _)
 generalize c.eval=ρ at *
 clear y hb r B z b g a
 go_simp
set_option maxRecDepth 10000 in
theorem Jgs:Zfo q base n v xs p0 p1 p2 p3 pa pn pc pb pm pd w0 Q 3:=by
 intro l c w hb r a g y b
 have z:Zfn[3]?=some (⟨some 48,.load 2 (.tmp 47),2, "text.go:52",#[⟨2,.data⟩],none⟩:Oper):=by kernel_rfl
 have B:Region.wanted _ (yielded Zfn c.tmps)=true:=Zf (o:=(⟨some 48,.load 2 (.tmp 47),2, "text.go:52",#[⟨2,.data⟩],none⟩:Oper)) rfl
 have a5:c.eval (.tmp 47)=.pointer (some ⟨q,2,none⟩):=by have h:=(y 2 (by decide)).2;rw [Jl (show Zo Zfn 2=some 47 by kernel_rfl)] at h;exact h
 have ec:∀ v,c.eval (.const v)=v:=fun _=>rfl
 have H:∀ f,c.eval (.func f)=.func (.func f) #[] #[]:=fun _=>rfl
 have y2:w.cell? ⟨q,2,none⟩=some (.int .i64 p2):=by obtain ⟨kk,_,_,ht,_⟩:=b;exact (boxes ht r.own r.box).2.2.1
 refine Zr (d:=48) z rfl (by rw [hb.size];decide) B (v:=.int .i64 p2) ?_ rfl (b.beside (by show (3:Nat) ∉ ([1,4,6,7]:List Nat);decide) (by intro s E;simp only [Zax,List.mem_cons,List.not_mem_nil,or_false] at E;subst E;show (5:Nat)≠3;decide) _)
 generalize c.eval=ρ at *
 clear y hb r B z b g a
 go_simp
set_option maxRecDepth 10000 in
theorem Jgt:Zfo q base n v xs p0 p1 p2 p3 pa pn pc pb pm pd w0 Q 4:=by
 intro l c w hb r a g y b
 have z:Zfn[4]?=some (⟨some 49,.call { callee:=.value (.func 202),args:=#[.tmp 46,.tmp 48,.const (Value.int .i64 10)],argTypes:=#[116,2,3] },116, "text.go:52",#[⟨1,.data⟩,⟨3,.data⟩,⟨1,.chain⟩],none⟩:Oper):=by kernel_rfl
 have B:Region.wanted _ (yielded Zfn c.tmps)=true:=Zf (o:=(⟨some 49,.call { callee:=.value (.func 202),args:=#[.tmp 46,.tmp 48,.const (Value.int .i64 10)],argTypes:=#[116,2,3] },116, "text.go:52",#[⟨1,.data⟩,⟨3,.data⟩,⟨1,.chain⟩],none⟩:Oper)) rfl
 have a9:c.eval (.tmp 46)=val Zfn c 1:=(Jl (show Zo Zfn 1=some 46 by kernel_rfl)).symm
 have a6:c.eval (.tmp 48)=.int .i64 p2:=by have h:=(y 3 (by decide)).2;rw [Jl (show Zo Zfn 3=some 48 by kernel_rfl)] at h;exact h
 have ec:∀ v,c.eval (.const v)=v:=fun _=>rfl
 have H:∀ f,c.eval (.func f)=.func (.func f) #[] #[]:=fun _=>rfl
 obtain ⟨ht,D⟩:=b.at (j:=1) (by show (1:Nat)<4;decide) a (.inr (y 1 (by decide)).1)
 have hB:base<=w.heap.size:=Nat.le_trans r.low ht.grown.size
 have p:=ht.own
 refine Zgn (d:=49) z rfl (by rw [hb.size];decide) B (f:=202) (args:=#[val Zfn c 1,.int .i64 p2,.int .i64 10]) ?_ ?_
 ·generalize c.eval=ρ at *
  clear y hb r B z b g a ht D hB p
  go_simp
 ·refine (r.call _ _ _ w p hB (ht.below r.own r.low) (by show n+2<=_;omega)).mono ?_
  rintro e w' ⟨F,rfl,C⟩
  exact ⟨F,rfl,trivial,b.on (Ziw q base n v xs p0 p1 p2 p3 pa pn pc pb pm pd w0) (j:=1) (by show (1:Nat)<4;decide) a (.inr (y 1 (by decide)).1) C⟩
set_option maxRecDepth 10000 in
theorem Jgu:Zfo q base n v xs p0 p1 p2 p3 pa pn pc pb pm pd w0 Q 5:=by
 intro l c w hb r a g y b
 have z:Zfn[5]?=some (⟨some 50,.buildSlice 116 1 #[(0,.const (Value.int .u8 62))],116, "text.go:52",#[],none⟩:Oper):=by kernel_rfl
 have B:Region.wanted _ (yielded Zfn c.tmps)=true:=Zf (o:=(⟨some 50,.buildSlice 116 1 #[(0,.const (Value.int .u8 62))],116, "text.go:52",#[],none⟩:Oper)) rfl
 have ec:∀ v,c.eval (.const v)=v:=fun _=>rfl
 have H:∀ f,c.eval (.func f)=.func (.func f) #[] #[]:=fun _=>rfl
 refine Zr (d:=50) z rfl (by rw [hb.size];decide) B (v:=.slice (some ⟨w.heap.size,0,none⟩) 1 1) (w':=w.alloc (.cells (byteCells [62]).toArray 5)) ?_ trivial (b.built (Ziw q base n v xs p0 p1 p2 p3 pa pn pc pb pm pd w0) (s:=(5,[62])) (by simp only [Zax,List.mem_cons,List.not_mem_nil,or_false]))
 generalize c.eval=ρ at *
 clear y hb r B z b g a
 go_simp
 rfl
set_option maxRecDepth 10000 in
theorem Jgv:Zfo q base n v xs p0 p1 p2 p3 pa pn pc pb pm pd w0 Q 6:=by
 intro l c w hb r a g y b
 have z:Zfn[6]?=some (⟨some 51,.call { callee:=.builtin .append,args:=#[.tmp 49,.tmp 50],argTypes:=#[116,116] },116, "text.go:52",#[⟨4,.data⟩,⟨5,.data⟩,⟨4,.chain⟩],none⟩:Oper):=by kernel_rfl
 have B:Region.wanted _ (yielded Zfn c.tmps)=true:=Zf (o:=(⟨some 51,.call { callee:=.builtin .append,args:=#[.tmp 49,.tmp 50],argTypes:=#[116,116] },116, "text.go:52",#[⟨4,.data⟩,⟨5,.data⟩,⟨4,.chain⟩],none⟩:Oper)) rfl
 have V:c.eval (.tmp 49)=val Zfn c 4:=(Jl (show Zo Zfn 4=some 49 by kernel_rfl)).symm
 have U:c.eval (.tmp 50)=val Zfn c 5:=(Jl (show Zo Zfn 5=some 50 by kernel_rfl)).symm
 have ec:∀ v,c.eval (.const v)=v:=fun _=>rfl
 have H:∀ f,c.eval (.func f)=.func (.func f) #[] #[]:=fun _=>rfl
 obtain ⟨ht,D⟩:=b.at (j:=2) (by show (2:Nat)<4;decide) a (.inr (y 4 (by decide)).1)
 have hB:base<=w.heap.size:=Nat.le_trans r.low ht.grown.size
 have p:=ht.own
 refine Zbw (d:=51) z rfl (by rw [hb.size];decide) fun K M=>?_
 rw [if_pos B]
 obtain ⟨t,P,X⟩:=D (5,[62]) (by simp only [Zax,List.mem_cons,List.not_mem_nil,or_false]) (y 5 (by decide)).1
 refine Zld (.tmp 49) (.tmp 50) rfl V (U.trans P) p X (by have:=r.few;have h2:=r.short;show n+_+1<=_;simp [Zax,Zad.sofar];omega) hB fun F w' C=>M F w' trivial (b.on (Ziw q base n v xs p0 p1 p2 p3 pa pn pc pb pm pd w0) (j:=2) (by show (2:Nat)<4;decide) a (.inr (y 4 (by decide)).1) C)
set_option maxRecDepth 10000 in
theorem Jgw:Zfo q base n v xs p0 p1 p2 p3 pa pn pc pb pm pd w0 Q 7:=by
 intro l c w hb r a g y b
 have z:Zfn[7]?=some (⟨some 4,.assign (.tmp 51),116, "text.go:52",#[⟨6,.data⟩,⟨6,.chain⟩,⟨0,.phase⟩,⟨1,.phase⟩,⟨2,.phase⟩,⟨3,.phase⟩,⟨4,.phase⟩,⟨5,.phase⟩,⟨6,.phase⟩],none⟩:Oper):=by kernel_rfl
 have B:Region.wanted _ (yielded Zfn c.tmps)=true:=Zf (o:=(⟨some 4,.assign (.tmp 51),116, "text.go:52",#[⟨6,.data⟩,⟨6,.chain⟩,⟨0,.phase⟩,⟨1,.phase⟩,⟨2,.phase⟩,⟨3,.phase⟩,⟨4,.phase⟩,⟨5,.phase⟩,⟨6,.phase⟩],none⟩:Oper)) rfl
 have a8:c.eval (.tmp 51)=val Zfn c 6:=(Jl (show Zo Zfn 6=some 51 by kernel_rfl)).symm
 have ec:∀ v,c.eval (.const v)=v:=fun _=>rfl
 have H:∀ f,c.eval (.func f)=.func (.func f) #[] #[]:=fun _=>rfl
 obtain ⟨ht,D⟩:=b.at (j:=3) (by show (3:Nat)<4;decide) a (.inr (y 6 (by decide)).1)
 have hB:base<=w.heap.size:=Nat.le_trans r.low ht.grown.size
 have p:=ht.own
 have C:=Zdf p
 refine Zr (d:=4) z rfl (by rw [hb.size];decide) B (v:=val Zfn c 6) ?_ trivial (b.on (Ziw q base n v xs p0 p1 p2 p3 pa pn pc pb pm pd w0) (j:=3) (by show (3:Nat)<4;decide) a (.inr (y 6 (by decide)).1) C)
 generalize c.eval=ρ at *
 clear y hb r B z b g a ht D hB p C
 go_simp
end
set_option maxRecDepth 100000 in
theorem Jgx (q base n:Nat) (v:Value) (xs:List Value) (p0:Int) (p1:Bool) (p2:Int) (p3:ByteArray) (pa:Option Addr) (pn pc:Nat) (pb:Option Addr) (pm pd:Nat) (w0:World) (Q:Exit->Act->World->Prop):∀ i,i<8->Zfo q base n v xs p0 p1 p2 p3 pa pn pc pb pm pd w0 Q i:=by
 intro i N
 match i,N with
 | 0,_=>exact Jgp q base n v xs p0 p1 p2 p3 pa pn pc pb pm pd w0 Q
 | 1,_=>exact Jgq q base n v xs p0 p1 p2 p3 pa pn pc pb pm pd w0 Q
 | 2,_=>exact Jgr q base n v xs p0 p1 p2 p3 pa pn pc pb pm pd w0 Q
 | 3,_=>exact Jgs q base n v xs p0 p1 p2 p3 pa pn pc pb pm pd w0 Q
 | 4,_=>exact Jgt q base n v xs p0 p1 p2 p3 pa pn pc pb pm pd w0 Q
 | 5,_=>exact Jgu q base n v xs p0 p1 p2 p3 pa pn pc pb pm pd w0 Q
 | 6,_=>exact Jgv q base n v xs p0 p1 p2 p3 pa pn pc pb pm pd w0 Q
 | 7,_=>exact Jgw q base n v xs p0 p1 p2 p3 pa pn pc pb pm pd w0 Q
theorem Zzc (q base n:Nat) (v:Value) (xs:List Value) (p0:Int) (p1:Bool) (p2:Int) (p3:ByteArray) (pa:Option Addr) (pn pc:Nat) (pb:Option Addr) (pm pd:Nat) (w0:World) (Q:Exit->Act->World->Prop) (frame:Act) (hb:Jiw q base n v xs p0 p1 p2 p3 pa pn pc pb pm pd w0 frame) (r:Jix q base n v xs p0 p1 p2 p3 pa pn pc pb pm pd w0)
  (R:∀ c w,Zl2 Zfn frame c->Zaa base n xs v w0 ((Zax q base n v xs p0 p1 p2 p3 pa pn pc pb pm pd w0).sofar 4) (c.eval (.tmp 4)) w->Q .normal c w):(Code.region 13 Zfn true).wp Tryz.prog Q frame w0:=by
 refine Zdk (A:=Zzb) (G:=Jim q base n v xs p0 p1 p2 p3 pa pn pc pb pm pd w0) (S:=(Zax q base n v xs p0 p1 p2 p3 pa pn pc pb pm pd w0).Far base n v xs w0) (by kernel_rfl) (by rw [hb.size];kernel_rfl) (Zad.Far.start r.own) ?_ ?_
 ·intro i N l c w b a g y O
  exact Jgx q base n v xs p0 p1 p2 p3 pa pn pc pb pm pd w0 Q i (by rwa [show Zfn.size=8 by kernel_rfl] at N) l c w ⟨(Za2 b (by kernel_rfl)).trans hb.t0,(Za2 b (by kernel_rfl)).trans hb.t3,(by rw [<- hb.size];exact b.2.1)⟩ r a g y O
 ·intro l c w b I O
  refine R c w b ?_
  have:=O.end (fun j T=>?_)
  ·have e:(Zax q base n v xs p0 p1 p2 p3 pa pn pc pb pm pd w0).row v (val Zfn c) (Zax q base n v xs p0 p1 p2 p3 pa pn pc pb pm pd w0).pos.length=c.eval (.tmp 4):=Jl (show Zo Zfn 7=some 4 by kernel_rfl)
   rw [e] at this
   exact this
  ·have hm:=Zad.get_mem T
   refine (I _ ?_).1
   rw [show Zfn.size=8 by kernel_rfl]
   have:∀ x ∈ (Zax q base n v xs p0 p1 p2 p3 pa pn pc pb pm pd w0).pos,x<8:=by show ∀ x ∈ ([1,4,6,7]:List Nat),x<8;decide
   exact this _ hm
noncomputable def Zfp:Array Oper:=Ze0 Tryz.f152 15
def Zzd (i:Nat):List Nat:=([[],[0],[],[2],[0,1,2,3],[],[0,1,2,3,4,5],[0,1,2,3,4,5,6]]:List (List Nat)).getD i []
def Zay (q base n:Nat) (v:Value) (xs:List Value) (p0:Int) (p1:Bool) (p2:Int) (p3:ByteArray) (pa:Option Addr) (pn pc:Nat) (pb:Option Addr) (pm pd:Nat) (w0:World):Zad:=⟨[1,4,6,7],[[60,114],itoa p2,[62],[]],[(5,[62])]⟩
def Jin (q base n:Nat) (v:Value) (xs:List Value) (p0:Int) (p1:Bool) (p2:Int) (p3:ByteArray) (pa:Option Addr) (pn pc:Nat) (pb:Option Addr) (pm pd:Nat) (w0:World) (i:Nat) (u:Value):Prop:=([fun u=>u=(v),fun _=>True,fun u=>u=(.pointer (some ⟨q,2,none⟩)),fun u=>u=(.int .i64 p2),fun _=>True,fun _=>True,fun _=>True,fun _=>True]:List (Value->Prop)).getD i (fun _=>True) u
structure Jiy (q base n:Nat) (v:Value) (xs:List Value) (p0:Int) (p1:Bool) (p2:Int) (p3:ByteArray) (pa:Option Addr) (pn pc:Nat) (pb:Option Addr) (pm pd:Nat) (w0:World) (c:Act):Prop where
 t0:c.eval (.tmp 0)=v
 t3:c.eval (.tmp 3)=.pointer (some ⟨q,0,none⟩)
 size:c.tmps.size=63
structure Jiz (q base n:Nat) (v:Value) (xs:List Value) (p0:Int) (p1:Bool) (p2:Int) (p3:ByteArray) (pa:Option Addr) (pn pc:Nat) (pb:Option Addr) (pm pd:Nat) (w0:World):Prop where
 own:w0.ownsRow base 5 1 v n xs
 low:base<=w0.heap.size
 few:n<=100000000000
 short:(itoa p2).length<=21
 box:w0.heap[q]?=some (.cells #[.int .i64 p0,.bool p1,.int .i64 p2,.string p3,.slice pa pn pc,.slice pb pm pd] 88 (0,0))
 call:∀ u L m w,w.ownsRow base 5 1 u m L->base<=w.heap.size->Below base w0 w->m<=n+2->Calls Tryz.prog 202 #[u,.int .i64 p2,.int .i64 10] w fun e w'=>∃ F,e=.returned F/\Zaa base m L u w (itoa p2) F w'
theorem Zix (q base n:Nat) (v:Value) (xs:List Value) (p0:Int) (p1:Bool) (p2:Int) (p3:ByteArray) (pa:Option Addr) (pn pc:Nat) (pb:Option Addr) (pm pd:Nat) (w0:World):(Zay q base n v xs p0 p1 p2 p3 pa pn pc pb pm pd w0).apart=true:=by
 unfold Zad.apart
 rw [Bool.and_eq_true]
 exact ⟨decide_eq_true ⟨by show ([1,4,6,7]:List Nat).Nodup;decide,by show ([5]:List Nat).Nodup;decide,by
  intro s E
  simp only [Zay,List.mem_cons,List.not_mem_nil,or_false] at E
  subst E
  show (5:Nat) ∉ ([1,4,6,7]:List Nat);decide⟩,decide_eq_true rfl⟩
def Zfq (q base n:Nat) (v:Value) (xs:List Value) (p0:Int) (p1:Bool) (p2:Int) (p3:ByteArray) (pa:Option Addr) (pn pc:Nat) (pb:Option Addr) (pm pd:Nat) (w0:World) (Q:Exit->Act->World->Prop) (i:Nat):Prop:=∀ (l:Nat->Bool) (c:Act) (w:World),Jiy q base n v xs p0 p1 p2 p3 pa pn pc pb pm pd w0 c->Jiz q base n v xs p0 p1 p2 p3 pa pn pc pb pm pd w0->l i=false->(∀ k,l k=true->∀ j ∈ Zzd k,l j=true)->(∀ j ∈ Zzd i,l j=true/\Jin q base n v xs p0 p1 p2 p3 pa pn pc pb pm pd w0 j (val Zfp c j))->(Zay q base n v xs p0 p1 p2 p3 pa pn pc pb pm pd w0).Far base n v xs w0 l (val Zfp c) w->Zd2 Tryz.prog Zfp Q (Jin q base n v xs p0 p1 p2 p3 pa pn pc pb pm pd w0) ((Zay q base n v xs p0 p1 p2 p3 pa pn pc pb pm pd w0).Far base n v xs w0) i l c w
section
variable (q base n:Nat) (v:Value) (xs:List Value) (p0:Int) (p1:Bool) (p2:Int) (p3:ByteArray) (pa:Option Addr) (pn pc:Nat) (pb:Option Addr) (pm pd:Nat) (w0:World) (Q:Exit->Act->World->Prop)
set_option maxRecDepth 10000 in
theorem Jgy:Zfq q base n v xs p0 p1 p2 p3 pa pn pc pb pm pd w0 Q 0:=by
 intro l c w hb r a g y b
 have z:Zfp[0]?=some (⟨some 54,.move (.tmp 0),116, "text.go:54",#[],none⟩:Oper):=by kernel_rfl
 have B:Region.wanted _ (yielded Zfp c.tmps)=true:=Zf (o:=(⟨some 54,.move (.tmp 0),116, "text.go:54",#[],none⟩:Oper)) rfl
 have e0:=hb.t0
 have ec:∀ v,c.eval (.const v)=v:=fun _=>rfl
 have H:∀ f,c.eval (.func f)=.func (.func f) #[] #[]:=fun _=>rfl
 refine Zr (d:=54) z rfl (by rw [hb.size];decide) B (v:=v) ?_ rfl (b.beside (by show (0:Nat) ∉ ([1,4,6,7]:List Nat);decide) (by intro s E;simp only [Zay,List.mem_cons,List.not_mem_nil,or_false] at E;subst E;show (5:Nat)≠0;decide) _)
 generalize c.eval=ρ at *
 clear y hb r B z b g a
 go_simp
set_option maxRecDepth 10000 in
theorem Jgz:Zfq q base n v xs p0 p1 p2 p3 pa pn pc pb pm pd w0 Q 1:=by
 intro l c w hb r a g y b
 have z:Zfp[1]?=some (⟨some 55,.call { callee:=.builtin .append,args:=#[.tmp 54,.const (Value.string { data:=#[60,114] })],argTypes:=#[116,9] },116, "text.go:54",#[⟨0,.data⟩],none⟩:Oper):=by kernel_rfl
 have B:Region.wanted _ (yielded Zfp c.tmps)=true:=Zf (o:=(⟨some 55,.call { callee:=.builtin .append,args:=#[.tmp 54,.const (Value.string { data:=#[60,114] })],argTypes:=#[116,9] },116, "text.go:54",#[⟨0,.data⟩],none⟩:Oper)) rfl
 have a0:c.eval (.tmp 54)=v:=by have h:=(y 0 (by decide)).2;rw [Jl (show Zo Zfp 0=some 54 by kernel_rfl)] at h;exact h
 have ec:∀ v,c.eval (.const v)=v:=fun _=>rfl
 have H:∀ f,c.eval (.func f)=.func (.func f) #[] #[]:=fun _=>rfl
 obtain ⟨ht,D⟩:=b.at (j:=0) (by show (0:Nat)<4;decide) a (.inl rfl)
 have hB:base<=w.heap.size:=Nat.le_trans r.low ht.grown.size
 have p:=ht.own
 refine Zbw (d:=55) z rfl (by rw [hb.size];decide) fun K M=>?_
 rw [if_pos B]
 refine Zja (.tmp 54) (Operand.const (Value.string { data:=#[60,114] })) rfl a0 rfl p (by decide) (by have:=r.few;show n+_+2<=_;simp [Zad.sofar];omega) hB fun F w' C=>M F w' trivial (b.on (Zix q base n v xs p0 p1 p2 p3 pa pn pc pb pm pd w0) (j:=0) (by show (0:Nat)<4;decide) a (.inl rfl) C)
set_option maxRecDepth 10000 in
theorem Jg0:Zfq q base n v xs p0 p1 p2 p3 pa pn pc pb pm pd w0 Q 2:=by
 intro l c w hb r a g y b
 have z:Zfp[2]?=some (⟨some 56,.fieldAddr 88 (.tmp 3) 2,0, "text.go:54",#[],none⟩:Oper):=by kernel_rfl
 have B:Region.wanted _ (yielded Zfp c.tmps)=true:=Zf (o:=(⟨some 56,.fieldAddr 88 (.tmp 3) 2,0, "text.go:54",#[],none⟩:Oper)) rfl
 have e3:=hb.t3
 have ec:∀ v,c.eval (.const v)=v:=fun _=>rfl
 have H:∀ f,c.eval (.func f)=.func (.func f) #[] #[]:=fun _=>rfl
 refine Zr (d:=56) z rfl (by rw [hb.size];decide) B (v:=.pointer (some ⟨q,2,none⟩)) ?_ rfl (b.beside (by show (2:Nat) ∉ ([1,4,6,7]:List Nat);decide) (by intro s E;simp only [Zay,List.mem_cons,List.not_mem_nil,or_false] at E;subst E;show (5:Nat)≠2;decide) _)
 generalize c.eval=ρ at *
 clear y hb r B z b g a
 go_simp
set_option maxRecDepth 10000 in
theorem Jg1:Zfq q base n v xs p0 p1 p2 p3 pa pn pc pb pm pd w0 Q 3:=by
 intro l c w hb r a g y b
 have z:Zfp[3]?=some (⟨some 57,.load 2 (.tmp 56),2, "text.go:54",#[⟨2,.data⟩],none⟩:Oper):=by kernel_rfl
 have B:Region.wanted _ (yielded Zfp c.tmps)=true:=Zf (o:=(⟨some 57,.load 2 (.tmp 56),2, "text.go:54",#[⟨2,.data⟩],none⟩:Oper)) rfl
 have a4:c.eval (.tmp 56)=.pointer (some ⟨q,2,none⟩):=by have h:=(y 2 (by decide)).2;rw [Jl (show Zo Zfp 2=some 56 by kernel_rfl)] at h;exact h
 have ec:∀ v,c.eval (.const v)=v:=fun _=>rfl
 have H:∀ f,c.eval (.func f)=.func (.func f) #[] #[]:=fun _=>rfl
 have y2:w.cell? ⟨q,2,none⟩=some (.int .i64 p2):=by obtain ⟨kk,_,_,ht,_⟩:=b;exact (boxes ht r.own r.box).2.2.1
 refine Zr (d:=57) z rfl (by rw [hb.size];decide) B (v:=.int .i64 p2) ?_ rfl (b.beside (by show (3:Nat) ∉ ([1,4,6,7]:List Nat);decide) (by intro s E;simp only [Zay,List.mem_cons,List.not_mem_nil,or_false] at E;subst E;show (5:Nat)≠3;decide) _)
 generalize c.eval=ρ at *
 clear y hb r B z b g a
 go_simp
set_option maxRecDepth 10000 in
theorem Jg2:Zfq q base n v xs p0 p1 p2 p3 pa pn pc pb pm pd w0 Q 4:=by
 intro l c w hb r a g y b
 have z:Zfp[4]?=some (⟨some 58,.call { callee:=.value (.func 202),args:=#[.tmp 55,.tmp 57,.const (Value.int .i64 10)],argTypes:=#[116,2,3] },116, "text.go:54",#[⟨1,.data⟩,⟨3,.data⟩,⟨1,.chain⟩],none⟩:Oper):=by kernel_rfl
 have B:Region.wanted _ (yielded Zfp c.tmps)=true:=Zf (o:=(⟨some 58,.call { callee:=.value (.func 202),args:=#[.tmp 55,.tmp 57,.const (Value.int .i64 10)],argTypes:=#[116,2,3] },116, "text.go:54",#[⟨1,.data⟩,⟨3,.data⟩,⟨1,.chain⟩],none⟩:Oper)) rfl
 have a3:c.eval (.tmp 55)=val Zfp c 1:=(Jl (show Zo Zfp 1=some 55 by kernel_rfl)).symm
 have a7:c.eval (.tmp 57)=.int .i64 p2:=by have h:=(y 3 (by decide)).2;rw [Jl (show Zo Zfp 3=some 57 by kernel_rfl)] at h;exact h
 have ec:∀ v,c.eval (.const v)=v:=fun _=>rfl
 have H:∀ f,c.eval (.func f)=.func (.func f) #[] #[]:=fun _=>rfl
 obtain ⟨ht,D⟩:=b.at (j:=1) (by show (1:Nat)<4;decide) a (.inr (y 1 (by decide)).1)
 have hB:base<=w.heap.size:=Nat.le_trans r.low ht.grown.size
 have p:=ht.own
 refine Zgn (d:=58) z rfl (by rw [hb.size];decide) B (f:=202) (args:=#[val Zfp c 1,.int .i64 p2,.int .i64 10]) ?_ ?_
 ·generalize c.eval=ρ at *
  clear y hb r B z b g a ht D hB p
  go_simp
 ·refine (r.call _ _ _ w p hB (ht.below r.own r.low) (by show n+2<=_;omega)).mono ?_
  rintro e w' ⟨F,rfl,C⟩
  exact ⟨F,rfl,trivial,b.on (Zix q base n v xs p0 p1 p2 p3 pa pn pc pb pm pd w0) (j:=1) (by show (1:Nat)<4;decide) a (.inr (y 1 (by decide)).1) C⟩
set_option maxRecDepth 10000 in
theorem Jg3:Zfq q base n v xs p0 p1 p2 p3 pa pn pc pb pm pd w0 Q 5:=by
 intro l c w hb r a g y b
 have z:Zfp[5]?=some (⟨some 59,.buildSlice 116 1 #[(0,.const (Value.int .u8 62))],116, "text.go:54",#[],none⟩:Oper):=by kernel_rfl
 have B:Region.wanted _ (yielded Zfp c.tmps)=true:=Zf (o:=(⟨some 59,.buildSlice 116 1 #[(0,.const (Value.int .u8 62))],116, "text.go:54",#[],none⟩:Oper)) rfl
 have ec:∀ v,c.eval (.const v)=v:=fun _=>rfl
 have H:∀ f,c.eval (.func f)=.func (.func f) #[] #[]:=fun _=>rfl
 refine Zr (d:=59) z rfl (by rw [hb.size];decide) B (v:=.slice (some ⟨w.heap.size,0,none⟩) 1 1) (w':=w.alloc (.cells (byteCells [62]).toArray 5)) ?_ trivial (b.built (Zix q base n v xs p0 p1 p2 p3 pa pn pc pb pm pd w0) (s:=(5,[62])) (by simp only [Zay,List.mem_cons,List.not_mem_nil,or_false]))
 generalize c.eval=ρ at *
 clear y hb r B z b g a
 go_simp
 rfl
set_option maxRecDepth 10000 in
theorem Jg4:Zfq q base n v xs p0 p1 p2 p3 pa pn pc pb pm pd w0 Q 6:=by
 intro l c w hb r a g y b
 have z:Zfp[6]?=some (⟨some 60,.call { callee:=.builtin .append,args:=#[.tmp 58,.tmp 59],argTypes:=#[116,116] },116, "text.go:54",#[⟨4,.data⟩,⟨5,.data⟩,⟨4,.chain⟩],none⟩:Oper):=by kernel_rfl
 have B:Region.wanted _ (yielded Zfp c.tmps)=true:=Zf (o:=(⟨some 60,.call { callee:=.builtin .append,args:=#[.tmp 58,.tmp 59],argTypes:=#[116,116] },116, "text.go:54",#[⟨4,.data⟩,⟨5,.data⟩,⟨4,.chain⟩],none⟩:Oper)) rfl
 have W:c.eval (.tmp 58)=val Zfp c 4:=(Jl (show Zo Zfp 4=some 58 by kernel_rfl)).symm
 have Y:c.eval (.tmp 59)=val Zfp c 5:=(Jl (show Zo Zfp 5=some 59 by kernel_rfl)).symm
 have ec:∀ v,c.eval (.const v)=v:=fun _=>rfl
 have H:∀ f,c.eval (.func f)=.func (.func f) #[] #[]:=fun _=>rfl
 obtain ⟨ht,D⟩:=b.at (j:=2) (by show (2:Nat)<4;decide) a (.inr (y 4 (by decide)).1)
 have hB:base<=w.heap.size:=Nat.le_trans r.low ht.grown.size
 have p:=ht.own
 refine Zbw (d:=60) z rfl (by rw [hb.size];decide) fun K M=>?_
 rw [if_pos B]
 obtain ⟨t,P,X⟩:=D (5,[62]) (by simp only [Zay,List.mem_cons,List.not_mem_nil,or_false]) (y 5 (by decide)).1
 refine Zld (.tmp 58) (.tmp 59) rfl W (Y.trans P) p X (by have:=r.few;have h2:=r.short;show n+_+1<=_;simp [Zay,Zad.sofar];omega) hB fun F w' C=>M F w' trivial (b.on (Zix q base n v xs p0 p1 p2 p3 pa pn pc pb pm pd w0) (j:=2) (by show (2:Nat)<4;decide) a (.inr (y 4 (by decide)).1) C)
set_option maxRecDepth 10000 in
theorem Jg5:Zfq q base n v xs p0 p1 p2 p3 pa pn pc pb pm pd w0 Q 7:=by
 intro l c w hb r a g y b
 have z:Zfp[7]?=some (⟨some 4,.assign (.tmp 60),116, "text.go:54",#[⟨6,.data⟩,⟨6,.chain⟩,⟨0,.phase⟩,⟨1,.phase⟩,⟨2,.phase⟩,⟨3,.phase⟩,⟨4,.phase⟩,⟨5,.phase⟩,⟨6,.phase⟩],none⟩:Oper):=by kernel_rfl
 have B:Region.wanted _ (yielded Zfp c.tmps)=true:=Zf (o:=(⟨some 4,.assign (.tmp 60),116, "text.go:54",#[⟨6,.data⟩,⟨6,.chain⟩,⟨0,.phase⟩,⟨1,.phase⟩,⟨2,.phase⟩,⟨3,.phase⟩,⟨4,.phase⟩,⟨5,.phase⟩,⟨6,.phase⟩],none⟩:Oper)) rfl
 have a2:c.eval (.tmp 60)=val Zfp c 6:=(Jl (show Zo Zfp 6=some 60 by kernel_rfl)).symm
 have ec:∀ v,c.eval (.const v)=v:=fun _=>rfl
 have H:∀ f,c.eval (.func f)=.func (.func f) #[] #[]:=fun _=>rfl
 obtain ⟨ht,D⟩:=b.at (j:=3) (by show (3:Nat)<4;decide) a (.inr (y 6 (by decide)).1)
 have hB:base<=w.heap.size:=Nat.le_trans r.low ht.grown.size
 have p:=ht.own
 have C:=Zdf p
 refine Zr (d:=4) z rfl (by rw [hb.size];decide) B (v:=val Zfp c 6) ?_ trivial (b.on (Zix q base n v xs p0 p1 p2 p3 pa pn pc pb pm pd w0) (j:=3) (by show (3:Nat)<4;decide) a (.inr (y 6 (by decide)).1) C)
 generalize c.eval=ρ at *
 clear y hb r B z b g a ht D hB p C
 go_simp
end
set_option maxRecDepth 100000 in
theorem Jg6 (q base n:Nat) (v:Value) (xs:List Value) (p0:Int) (p1:Bool) (p2:Int) (p3:ByteArray) (pa:Option Addr) (pn pc:Nat) (pb:Option Addr) (pm pd:Nat) (w0:World) (Q:Exit->Act->World->Prop):∀ i,i<8->Zfq q base n v xs p0 p1 p2 p3 pa pn pc pb pm pd w0 Q i:=by
 intro i N
 match i,N with
 | 0,_=>exact Jgy q base n v xs p0 p1 p2 p3 pa pn pc pb pm pd w0 Q
 | 1,_=>exact Jgz q base n v xs p0 p1 p2 p3 pa pn pc pb pm pd w0 Q
 | 2,_=>exact Jg0 q base n v xs p0 p1 p2 p3 pa pn pc pb pm pd w0 Q
 | 3,_=>exact Jg1 q base n v xs p0 p1 p2 p3 pa pn pc pb pm pd w0 Q
 | 4,_=>exact Jg2 q base n v xs p0 p1 p2 p3 pa pn pc pb pm pd w0 Q
 | 5,_=>exact Jg3 q base n v xs p0 p1 p2 p3 pa pn pc pb pm pd w0 Q
 | 6,_=>exact Jg4 q base n v xs p0 p1 p2 p3 pa pn pc pb pm pd w0 Q
 | 7,_=>exact Jg5 q base n v xs p0 p1 p2 p3 pa pn pc pb pm pd w0 Q
theorem Zze (q base n:Nat) (v:Value) (xs:List Value) (p0:Int) (p1:Bool) (p2:Int) (p3:ByteArray) (pa:Option Addr) (pn pc:Nat) (pb:Option Addr) (pm pd:Nat) (w0:World) (Q:Exit->Act->World->Prop) (frame:Act) (hb:Jiy q base n v xs p0 p1 p2 p3 pa pn pc pb pm pd w0 frame) (r:Jiz q base n v xs p0 p1 p2 p3 pa pn pc pb pm pd w0)
  (R:∀ c w,Zl2 Zfp frame c->Zaa base n xs v w0 ((Zay q base n v xs p0 p1 p2 p3 pa pn pc pb pm pd w0).sofar 4) (c.eval (.tmp 4)) w->Q .normal c w):(Code.region 15 Zfp true).wp Tryz.prog Q frame w0:=by
 refine Zdk (A:=Zzd) (G:=Jin q base n v xs p0 p1 p2 p3 pa pn pc pb pm pd w0) (S:=(Zay q base n v xs p0 p1 p2 p3 pa pn pc pb pm pd w0).Far base n v xs w0) (by kernel_rfl) (by rw [hb.size];kernel_rfl) (Zad.Far.start r.own) ?_ ?_
 ·intro i N l c w b a g y O
  exact Jg6 q base n v xs p0 p1 p2 p3 pa pn pc pb pm pd w0 Q i (by rwa [show Zfp.size=8 by kernel_rfl] at N) l c w ⟨(Za2 b (by kernel_rfl)).trans hb.t0,(Za2 b (by kernel_rfl)).trans hb.t3,(by rw [<- hb.size];exact b.2.1)⟩ r a g y O
 ·intro l c w b I O
  refine R c w b ?_
  have:=O.end (fun j T=>?_)
  ·have e:(Zay q base n v xs p0 p1 p2 p3 pa pn pc pb pm pd w0).row v (val Zfp c) (Zay q base n v xs p0 p1 p2 p3 pa pn pc pb pm pd w0).pos.length=c.eval (.tmp 4):=Jl (show Zo Zfp 7=some 4 by kernel_rfl)
   rw [e] at this
   exact this
  ·have hm:=Zad.get_mem T
   refine (I _ ?_).1
   rw [show Zfp.size=8 by kernel_rfl]
   have:∀ x ∈ (Zay q base n v xs p0 p1 p2 p3 pa pn pc pb pm pd w0).pos,x<8:=by show ∀ x ∈ ([1,4,6,7]:List Nat),x<8;decide
   exact this _ hm
end Go.Proofs.YthfilnflgahcjaaGreatDoor
