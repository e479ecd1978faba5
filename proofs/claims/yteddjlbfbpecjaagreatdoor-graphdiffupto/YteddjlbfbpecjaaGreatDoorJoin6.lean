import Derived.Test.YteddjlbfbpecjaaGreatDoorJoin5
import Derived.Laws.Slices
namespace Go.Proofs.YteddjlbfbpecjaaGreatDoor
set_option maxHeartbeats 4000000
set_option maxRecDepth 100000
set_option linter.all false
section
open Go.RowKit Go.Shelf Go.WideShapes
def KB (K:World->Value->Prop) (w:World) (v:Value):Prop:=∃ W,K W v/\Below W.heap.size W w
theorem KB.grow {K:World->Value->Prop} {w w':World} {v:Value} (h:KB K w v) (q:Below w.heap.size w w'):KB K w' v:=by
 obtain ⟨W,h1,h2⟩:=h
 exact ⟨W,h1,h2.trans (q.mono h2.size)⟩
noncomputable def Zj0  : Array Oper:=Zy Tryz.f30 7
def Jil  : List Sig:=[⟨33,.move (.tmp 0),31,none⟩,⟨34,.nilCheck (.tmp 33),0,none⟩,⟨35,.fieldAddr 74 (.tmp 34) 0,0,none⟩,⟨36,.fieldAddr 71 (.tmp 35) 2,0,none⟩,⟨37,.load 2 (.tmp 36),2,none⟩,⟨38,.move (.tmp 2),45,none⟩,⟨39,.call { callee:=.value (.func 88),args:=#[.tmp 38],argTypes:=#[45] },45,none⟩,⟨40,.build 47 #[(0,.tmp 37),(2,.tmp 39)],47,none⟩,⟨8,.alloc 47,0,none⟩]
theorem Je0  : (Jh Zj0).take Jil.length=Jil.map some:=by kernel_rfl
def Ziu (i:Nat):List Nat:=nth [] [[],[0],[1],[2],[3],[],[5],[4,6],[],[0,1,2,3,4,5,6,7,8]] i
def Za7 (p:GP) (nn:Int) (b:Value) (d:Nat) (K:World->Value->Prop):List (Value->World->Prop) :=
 [eqv (.pointer (some ⟨p.g,0,none⟩)),eqv (.pointer (some ⟨p.g,0,none⟩)),eqv (.pointer (some ⟨p.g,0,none⟩)),eqv (.pointer (some ⟨p.g,2,none⟩)),eqv (.int .i64 nn),eqv (b),fun v w=>∃ a n c,v=.slice a n c/\KB K w v,fun v w=>∃ a n c,v=.agg #[.int .i64 nn,.slice none 0 0,.slice a n c]/\KB K w (.slice a n c),fun v w=>∃ X,v=.pointer (some ⟨X,0,none⟩)/\d<=X/\Rec w X #[.int .i64 0,.slice none 0 0,.slice none 0 0] 47]
structure Zgx (p:GP) (nn:Int) (b:Value) (d:Nat) (K:World->Value->Prop) (c:Act):Prop where
 t0:c.eval (.tmp 0)=.pointer (some ⟨p.g,0,none⟩)
 t2:c.eval (.tmp 2)=b
structure Zes (p:GP) (nn:Int) (b:Value) (d:Nat) (K:World->Value->Prop) (w:World):Prop where
 c2:w.cell? ⟨p.g,2,none⟩=some (.int .i64 nn)
 b0:d<=w.heap.size
 k6:Calls Tryz.prog 88 #[b] w fun e w'=>∃ a n c,e=.returned (.slice a n c)/\K w' (.slice a n c)/\Below w.heap.size w w'
theorem Je1 (p:GP) (nn:Int) (b:Value) (d:Nat) (K:World->Value->Prop) (Q:Exit->Act->World->Prop) (c:Act) (w:World) (q:Zgx p nn b d K c) (r:Zes p nn b d K w) (m:∀ q0 ∈ Ziu 6,Zg (Za7 p nn b d K) q0 (val Zj0 c q0) w) :
  Zbp Tryz.prog Zj0 Q (Zg (Za7 p nn b d K)) 6 c w:=by
 have z:Zj0[6]?=some (⟨some 39,.call { callee:=.value (.func 88),args:=#[.tmp 38],argTypes:=#[45] },45, "edit.go:22",#[⟨5,.data⟩],none⟩:Oper):=by kernel_rfl
 have R:c.eval (.tmp 38)=b:=Zm (by kernel_rfl) rfl (m 5 (by decide))
 have y:Region.wanted (⟨some 39,.call { callee:=.value (.func 88),args:=#[.tmp 38],argTypes:=#[45] },45, "edit.go:22",#[⟨5,.data⟩],none⟩:Oper) (yielded Zj0 c.tmps)=true:=Zz rfl
 have G:=evc c
 have H:=evf c
 refine Zc2 z y (f:=88) (args:=#[b]) ?_ (r.k6.mono fun e w' ⟨a,n,c,h1,h2,h3⟩=>⟨_,h1,⟨a,n,c,rfl,w',h2,Below.refl _ _⟩,h3⟩)
 generalize c.eval=ρ at *
 clear m q r y z
 go_simp
theorem Je2 (p:GP) (nn:Int) (b:Value) (d:Nat) (K:World->Value->Prop) (Q:Exit->Act->World->Prop) (c:Act) (w:World) (q:Zgx p nn b d K c) (r:Zes p nn b d K w) (m:∀ q0 ∈ Ziu 7,Zg (Za7 p nn b d K) q0 (val Zj0 c q0) w) :
  Zbp Tryz.prog Zj0 Q (Zg (Za7 p nn b d K)) 7 c w:=by
 have z:Zj0[7]?=some (⟨some 40,.build 47 #[(0,.tmp 37),(2,.tmp 39)],47, "edit.go:22",#[⟨4,.data⟩,⟨6,.data⟩],none⟩:Oper):=by kernel_rfl
 have T:c.eval (.tmp 37)=.int .i64 nn:=Zm (by kernel_rfl) rfl (m 4 (by decide))
 have L:(fun v w=>∃ a n c,v=.slice a n c/\KB K w v) (c.eval (.tmp 39)) w:=Jw (by kernel_rfl) rfl (m 6 (by decide))
 have y:Region.wanted (⟨some 40,.build 47 #[(0,.tmp 37),(2,.tmp 39)],47, "edit.go:22",#[⟨4,.data⟩,⟨6,.data⟩],none⟩:Oper) (yielded Zj0 c.tmps)=true:=Zz rfl
 have G:=evc c
 have H:=evf c
 obtain ⟨a,n,O,I,D⟩:=L
 rw [I] at D
 refine Ze z y (v:=.agg #[.int .i64 nn,.slice none 0 0,.slice a n O]) ?_ ⟨a,n,O,rfl,D⟩ (Below.refl _ _)
 generalize c.eval=ρ at *
 clear m q r y z
 go_simp
theorem Je3 (p:GP) (nn:Int) (b:Value) (d:Nat) (K:World->Value->Prop) (Q:Exit->Act->World->Prop) (c:Act) (w:World) (q:Zgx p nn b d K c) (r:Zes p nn b d K w) (m:∀ q0 ∈ Ziu 8,Zg (Za7 p nn b d K) q0 (val Zj0 c q0) w) :
  Zbp Tryz.prog Zj0 Q (Zg (Za7 p nn b d K)) 8 c w:=by
 have z:Zj0[8]?=some (⟨some 8,.alloc 47,0, "edit.go:22",#[],none⟩:Oper):=by kernel_rfl
 have y:Region.wanted (⟨some 8,.alloc 47,0, "edit.go:22",#[],none⟩:Oper) (yielded Zj0 c.tmps)=true:=Zz rfl
 have G:=evc c
 have H:=evf c
 refine Ze z y (v:=.pointer (some ⟨w.heap.size,0,none⟩)) (w':=w.alloc (.cells #[.int .i64 0,.slice none 0 0,.slice none 0 0] 47)) ?_ ⟨w.heap.size,rfl,r.b0,Zl _ _ _⟩ ((Below.refl _ _).alloc (Nat.le_refl _) _)
 generalize c.eval=ρ at *
 clear m q r y z
 go_simp
theorem Zwa (p:GP) (nn:Int) (b:Value) (d:Nat) (K:World->Value->Prop):∀ pr ∈ Za7 p nn b d K,Zct pr:=by
 unfold Za7
 iterate 9 (first | refine List.forall_mem_cons.2 ⟨Zal _,?_⟩ | refine List.forall_mem_cons.2 ⟨fun v w w' ⟨a,n,c,h,D⟩ q=>⟨a,n,c,h,D.grow q⟩,?_⟩ | refine List.forall_mem_cons.2 ⟨fun v w w' ⟨a,n,c,h,D⟩ q=>⟨a,n,c,h,D.grow q⟩,?_⟩ | refine List.forall_mem_cons.2 ⟨fun v w w' ⟨X,h,P,N⟩ q=>⟨X,h,P,N.below q N.lt⟩,?_⟩)
 exact List.forall_mem_nil _
theorem Je4 (p:GP) (nn:Int) (b:Value) (d:Nat) (K:World->Value->Prop) (Q:Exit->Act->World->Prop):∀ i,i<9->(fun i=>i ∉ ([6,7,8]:List Nat)->∀ c w,Zgx p nn b d K c->Zes p nn b d K w->(∀ q0 ∈ Ziu i,Zg (Za7 p nn b d K) q0 (val Zj0 c q0) w)->Zbp Tryz.prog Zj0 Q (Zg (Za7 p nn b d K)) i c w) i:=by
 iterate 9 (refine Zd ?_ (by
  intro E c w q r m
  first
  | exact absurd (by decide) E
  | (have hEq:=Za5 Je0 (by decide) m
     refine Zbb Je0 (by decide) rfl (fun _=>rfl) ?_
     obtain ⟨t0,t2⟩:=q
     obtain ⟨c2,b0,k6⟩:=r
     have G:=evc c
     have H:=evf c
     dsimp only [Ziu,Jil,Za7,nth,Zdj,Za2,eqv] at hEq |-
     refine .inl fun pos S=>?_
     clear m E k6
     dsimp only [Sig.oper]
     generalize c.eval=ρ at *
     go_simp
     done)))
 exact Zf
theorem Je5 (p:GP) (nn:Int) (b:Value) (d:Nat) (K:World->Value->Prop) (Q:Exit->Act->World->Prop):∀ i,i<9->(fun i=>∀ c w,Zgx p nn b d K c->Zes p nn b d K w->(∀ q0 ∈ Ziu i,Zg (Za7 p nn b d K) q0 (val Zj0 c q0) w)->Zbp Tryz.prog Zj0 Q (Zg (Za7 p nn b d K)) i c w) i:=by
 intro i s
 by_cases h6:i=6
 ·subst h6;exact fun c w=>Je1 p nn b d K Q c w
 by_cases h7:i=7
 ·subst h7;exact fun c w=>Je2 p nn b d K Q c w
 by_cases h8:i=8
 ·subst h8;exact fun c w=>Je3 p nn b d K Q c w
 exact Je4 p nn b d K Q i s (by simp [*])
theorem Zwb (p:GP) (nn:Int) (b:Value) (d:Nat) (K:World->Value->Prop) (Q:Exit->Act->World->Prop) (base:Act) (t:World) (C:base.tmps.size=79) (q:Zgx p nn b d K base)
  (r:∀ w,Below t.heap.size t w->Zes p nn b d K w) (M:∀ c w,Zaf Zj0 base c->Below t.heap.size t w->(fun v w=>∃ a n c,v=.agg #[.int .i64 nn,.slice none 0 0,.slice a n c]/\KB K w (.slice a n c)) (c.eval (.tmp 40)) w->(fun v w=>∃ X,v=.pointer (some ⟨X,0,none⟩)/\d<=X/\Rec w X #[.int .i64 0,.slice none 0 0,.slice none 0 0] 47) (c.eval (.tmp 8)) w->∃ w',(execOp c.eval (⟨none,.store 47 (.tmp 8) (.tmp 40),0, "edit.go:22",#[⟨8,.data⟩,⟨7,.data⟩,⟨6,.chain⟩,⟨0,.phase⟩,⟨1,.phase⟩,⟨2,.phase⟩,⟨3,.phase⟩,⟨4,.phase⟩,⟨5,.phase⟩,⟨6,.phase⟩,⟨7,.phase⟩,⟨8,.phase⟩],none⟩:Oper)).run Tryz.prog w=.ok .skip w'/\Q .normal c w'):(Code.region 7 Zj0 true).wp Tryz.prog Q base t:=by
 have u:(List.range 9).all (fun i=>(Zv Zj0 i).isSome)=true:=by kernel_rfl
 refine Zce (A:=Ziu) (F:=Zg (Za7 p nn b d K)) 9 (by kernel_rfl) (by kernel_rfl) (by kernel_rfl) (by rw [C];kernel_rfl) ?_ (by decide) (fun i v w w'=>Jk (Zwa p nn b d K) i v w w') ?_ ?_
 ·exact fun i s=>Option.isSome_iff_exists.1 (List.all_eq_true.1 u i (List.mem_range.2 s))
 ·intro i s c w x B m
  exact Je5 p nn b d K Q i s c w ⟨(Zc x (by kernel_rfl)).trans q.t0,(Zc x (by kernel_rfl)).trans q.t2⟩ (r w B) m
 ·intro c w x B m
  obtain ⟨w',h1,h2⟩:=M c w x B (Jw (p:=fun v w=>∃ a n c,v=.agg #[.int .i64 nn,.slice none 0 0,.slice a n c]/\KB K w (.slice a n c)) (by kernel_rfl) rfl (m 7 (by omega))) (Jw (p:=fun v w=>∃ X,v=.pointer (some ⟨X,0,none⟩)/\d<=X/\Rec w X #[.int .i64 0,.slice none 0 0,.slice none 0 0] 47) (by kernel_rfl) rfl (m 8 (by omega)))
  exact Zb5 (by kernel_rfl) (Zz rfl) h1 h2
noncomputable def Zls  : Array Oper:=Zy Tryz.f30 13
def Jcu  : List Sig:=[⟨60,.move (.tmp 0),31,none⟩,⟨61,.nilCheck (.tmp 60),0,none⟩,⟨62,.fieldAddr 74 (.tmp 61) 0,0,none⟩,⟨63,.fieldAddr 71 (.tmp 62) 0,0,none⟩,⟨64,.load 68 (.tmp 63),68,none⟩,⟨65,.fieldAddr 47 (.tmp 8) 0,0,none⟩,⟨66,.load 2 (.tmp 65),2,none⟩,⟨67,.load 47 (.tmp 8),47,none⟩]
theorem Jby  : (Jh Zls).take Jcu.length=Jcu.map some:=by kernel_rfl
def Zlt (i:Nat):List Nat:=nth [] [[],[0],[1],[2],[3],[],[5],[],[0,1,2,3,4,5,6,7]] i
def Zcj (p:GP) (nn:Int) (X:Nat) (la o:Option Addr) (j lc l k:Nat):List (Value->World->Prop) :=
 [eqv (.pointer (some ⟨p.g,0,none⟩)),eqv (.pointer (some ⟨p.g,0,none⟩)),eqv (.pointer (some ⟨p.g,0,none⟩)),eqv (.pointer (some ⟨p.g,0,none⟩)),eqv (.map (some p.n)),eqv (.pointer (some ⟨X,0,none⟩)),eqv (.int .i64 nn),eqv (.agg #[.int .i64 nn,.slice la j lc,.slice o l k])]
structure Zlu (p:GP) (nn:Int) (X:Nat) (la o:Option Addr) (j lc l k:Nat) (c:Act):Prop where
 t0:c.eval (.tmp 0)=.pointer (some ⟨p.g,0,none⟩)
 t8:c.eval (.tmp 8)=.pointer (some ⟨X,0,none⟩)
structure Ziv (p:GP) (nn:Int) (X:Nat) (la o:Option Addr) (j lc l k:Nat) (w:World):Prop where
 c0:w.cell? ⟨p.g,0,none⟩=some (.map (some p.n))
 x0:w.cell? ⟨X,0,none⟩=some (.int .i64 nn)
 x1:w.cell? ⟨X,1,none⟩=some (.slice la j lc)
 x2:w.cell? ⟨X,2,none⟩=some (.slice o l k)
theorem Ztc (p:GP) (nn:Int) (X:Nat) (la o:Option Addr) (j lc l k:Nat):∀ pr ∈ Zcj p nn X la o j lc l k,Zct pr:=by
 unfold Zcj
 iterate 8 (first | refine List.forall_mem_cons.2 ⟨Zal _,?_⟩)
 exact List.forall_mem_nil _
theorem Jcv (p:GP) (nn:Int) (X:Nat) (la o:Option Addr) (j lc l k:Nat) (Q:Exit->Act->World->Prop):∀ i,i<8->(fun i=>i ∉ ([]:List Nat)->∀ c w,Zlu p nn X la o j lc l k c->Ziv p nn X la o j lc l k w->(∀ q0 ∈ Zlt i,Zg (Zcj p nn X la o j lc l k) q0 (val Zls c q0) w)->Zbp Tryz.prog Zls Q (Zg (Zcj p nn X la o j lc l k)) i c w) i:=by
 iterate 8 (refine Zd ?_ (by
  intro E c w q r m
  first
  | exact absurd (by decide) E
  | (have hEq:=Za5 Jby (by decide) m
     refine Zbb Jby (by decide) rfl (fun _=>rfl) ?_
     obtain ⟨t0,t8⟩:=q
     obtain ⟨c0,x0,x1,x2⟩:=r
     have G:=evc c
     have H:=evf c
     dsimp only [Zlt,Jcu,Zcj,nth,Zdj,Za2,eqv] at hEq |-
     refine .inl fun pos S=>?_
     clear m E
     dsimp only [Sig.oper]
     generalize c.eval=ρ at *
     go_simp
     done)))
 exact Zf
theorem Jcw (p:GP) (nn:Int) (X:Nat) (la o:Option Addr) (j lc l k:Nat) (Q:Exit->Act->World->Prop):∀ i,i<8->(fun i=>∀ c w,Zlu p nn X la o j lc l k c->Ziv p nn X la o j lc l k w->(∀ q0 ∈ Zlt i,Zg (Zcj p nn X la o j lc l k) q0 (val Zls c q0) w)->Zbp Tryz.prog Zls Q (Zg (Zcj p nn X la o j lc l k)) i c w) i:=by
 intro i s
 exact Jcv p nn X la o j lc l k Q i s (by simp [*])
theorem Ztd (p:GP) (nn:Int) (X:Nat) (la o:Option Addr) (j lc l k:Nat) (Q:Exit->Act->World->Prop) (base:Act) (t:World) (C:base.tmps.size=79) (q:Zlu p nn X la o j lc l k base)
  (r:∀ w,Below t.heap.size t w->Ziv p nn X la o j lc l k w) (M:∀ c w,Zaf Zls base c->Below t.heap.size t w->c.eval (.tmp 64)=.map (some p.n)->c.eval (.tmp 66)=.int .i64 nn->c.eval (.tmp 67)=.agg #[.int .i64 nn,.slice la j lc,.slice o l k]->∃ w',(execOp c.eval (⟨none,.mapUpdate 68 (.tmp 64) (.tmp 66) (.tmp 67),0, "edit.go:27",#[⟨4,.data⟩,⟨6,.data⟩,⟨7,.data⟩,⟨0,.phase⟩,⟨1,.phase⟩,⟨2,.phase⟩,⟨3,.phase⟩,⟨4,.phase⟩,⟨5,.phase⟩,⟨6,.phase⟩,⟨7,.phase⟩],none⟩:Oper)).run Tryz.prog w=.ok .skip w'/\Q .normal c w'):(Code.region 13 Zls true).wp Tryz.prog Q base t:=by
 have u:(List.range 8).all (fun i=>(Zv Zls i).isSome)=true:=by kernel_rfl
 refine Zce (A:=Zlt) (F:=Zg (Zcj p nn X la o j lc l k)) 8 (by kernel_rfl) (by kernel_rfl) (by kernel_rfl) (by rw [C];kernel_rfl) ?_ (by decide) (fun i v w w'=>Jk (Ztc p nn X la o j lc l k) i v w w') ?_ ?_
 ·exact fun i s=>Option.isSome_iff_exists.1 (List.all_eq_true.1 u i (List.mem_range.2 s))
 ·intro i s c w x B m
  exact Jcw p nn X la o j lc l k Q i s c w ⟨(Zc x (by kernel_rfl)).trans q.t0,(Zc x (by kernel_rfl)).trans q.t8⟩ (r w B) m
 ·intro c w x B m
  obtain ⟨w',h1,h2⟩:=M c w x B (Jw (p:=eqv (.map (some p.n))) (by kernel_rfl) rfl (m 4 (by omega))) (Jw (p:=eqv (.int .i64 nn)) (by kernel_rfl) rfl (m 6 (by omega))) (Jw (p:=eqv (.agg #[.int .i64 nn,.slice la j lc,.slice o l k])) (by kernel_rfl) rfl (m 7 (by omega)))
  exact Zb5 (by kernel_rfl) (Zz rfl) h1 h2
end
section
open Go.RowKit Go.Shelf
structure Put (X:Nat) (w w':World) (cs:Array Value) (ty:TypeId):Prop where
 r:Rec w' X cs ty
 other:∀ i,i≠X->w'.heap[i]?=w.heap[i]?
 size:w'.heap.size=w.heap.size
 below:Below X w w'
theorem Zco {X:Nat} {w w':World} {cs:Array Value} {ty:TypeId} (h:Put X w w' cs ty) (i:Nat) (v:Value):Put X w (w'.setCell ⟨X,i,none⟩ v) (cs.setIfInBounds i v) ty :=
 ⟨h.r.set i v,fun j m=>(Below.heap_setCell _ _ _ _ m).trans (h.other j m),by simp [World.setCell,h.size],h.below.setCell (Nat.le_refl _) _⟩
theorem Zlf {X:Nat} {w:World} {cs:Array Value} {ty:TypeId} (h:Rec w X cs ty):Put X w w cs ty:=⟨h,fun _ _=>rfl,rfl,Below.refl _ _⟩
theorem Jcf (ρ:Operand->Value) (X:Nat) (w:World) (e l g:Value) (nn:Int) (d:Option Addr) (c b:Nat) (h:Rec w X #[e,l,g] 47) (q:ρ (.tmp 8)=.pointer (some ⟨X,0,none⟩)) (k:ρ (.tmp 40)=.agg #[.int .i64 nn,.slice none 0 0,.slice d c b]) :
  ∃ w',(execOp ρ (⟨none,.store 47 (.tmp 8) (.tmp 40),0, "edit.go:22",#[⟨8,.data⟩,⟨7,.data⟩,⟨6,.chain⟩,⟨0,.phase⟩,⟨1,.phase⟩,⟨2,.phase⟩,⟨3,.phase⟩,⟨4,.phase⟩,⟨5,.phase⟩,⟨6,.phase⟩,⟨7,.phase⟩,⟨8,.phase⟩],none⟩:Oper)).run Tryz.prog w=.ok .skip w'/\Put X w w' #[.int .i64 nn,.slice none 0 0,.slice d c b] 47:=by
 have c0:=h.cell 0 rfl
 have c1:=h.cell 1 rfl
 have c2:=h.cell 2 rfl
 have n:=h.z 0
 have o:=h.z 1
 have u:=h.z 2
 refine ⟨((w.setCell ⟨X,0,none⟩ (.int .i64 nn)).setCell ⟨X,1,none⟩ (.slice none 0 0)).setCell ⟨X,2,none⟩ (.slice d c b),?_,by simpa using Zco (Zco (Zco (Zlf h) 0 (.int .i64 nn)) 1 (.slice none 0 0)) 2 (.slice d c b)⟩
 clear h
 go_simp
theorem Jcg (ρ:Operand->Value) (X:Nat) (w:World) (e l g p x:Value) (nn f t:Int) (s:ByteArray) (d:Option Addr) (c b:Nat) (h:Rec w X #[e,l,g,p,x] 49) (q:ρ (.tmp 12)=.pointer (some ⟨X,0,none⟩)) (k:ρ (.tmp 55)=.agg #[.int .i64 nn,.int .i64 f,.int .i64 t,.string s,.slice d c b]) :
  ∃ w',(execOp ρ (⟨none,.store 49 (.tmp 12) (.tmp 55),0, "edit.go:44",#[⟨11,.data⟩,⟨10,.data⟩,⟨9,.chain⟩,⟨0,.phase⟩,⟨1,.phase⟩,⟨2,.phase⟩,⟨3,.phase⟩,⟨4,.phase⟩,⟨5,.phase⟩,⟨6,.phase⟩,⟨7,.phase⟩,⟨8,.phase⟩,⟨9,.phase⟩,⟨10,.phase⟩,⟨11,.phase⟩],none⟩:Oper)).run Tryz.prog w=.ok .skip w'/\Put X w w' #[.int .i64 nn,.int .i64 f,.int .i64 t,.string s,.slice d c b] 49:=by
 have c0:=h.cell 0 rfl
 have c1:=h.cell 1 rfl
 have c2:=h.cell 2 rfl
 have c3:=h.cell 3 rfl
 have c4:=h.cell 4 rfl
 have n:=h.z 0
 have o:=h.z 1
 have u:=h.z 2
 have y:=h.z 3
 have B:=h.z 4
 refine ⟨((((w.setCell ⟨X,0,none⟩ (.int .i64 nn)).setCell ⟨X,1,none⟩ (.int .i64 f)).setCell ⟨X,2,none⟩ (.int .i64 t)).setCell ⟨X,3,none⟩ (.string s)).setCell ⟨X,4,none⟩ (.slice d c b),?_,by simpa using Zco (Zco (Zco (Zco (Zco (Zlf h) 0 (.int .i64 nn)) 1 (.int .i64 f)) 2 (.int .i64 t)) 3 (.string s)) 4 (.slice d c b)⟩
 clear h
 go_simp
end
section
open Go.RowKit Go.Shelf
attribute [local go_sem] Oper.semAt_some
def Zfk (w:World) (f g:Nat) (a:Option Addr) (ks:List ByteArray):Prop:=ks=[]\/∃ b off,a=some ⟨b,off,none⟩/\(f<=b/\b<g)/\∀ i x,ks[i]?=some x->w.cell? ⟨b,off+i,none⟩=some (.string x)
theorem Zv5  : Tryz.prog.underlying 44=some (.slice (Tryz.prog.elem 44)):=by kernel_rfl
theorem Jex (w:World):(Go.sizeOf (Tryz.prog.elem 44)).run Tryz.prog w=.ok 1 w:=by
 have e:Tryz.prog.elem 44=9:=by kernel_rfl
 rw [e];exact Tryz.sizeOf9 w
theorem Zzw {w:World} {f g:Nat} {a:Option Addr} {x:ByteArray} {r:List ByteArray} (h:Zfk w f g a (x::r)) (c:Nat) (R:r.length+1<=c) :
  ∃ C,(∀ W,(Instr.sliceAt 44 (.slice a (r.length+1) c) (some (.int .i64 1)) none none).run Tryz.prog W=.ok (.slice C r.length (c - 1)) W)/\Zfk w f g C r:=by
 obtain ⟨b,off,rfl,s,d⟩:=h.resolve_left (by simp)
 have l:∀ W,(Instr.sliceAt 44 (.slice (some ⟨b,off,none⟩) (r.length+1) c) (some (.int .i64 1)) none none).run Tryz.prog W=.ok (sliced (some ⟨b,off,none⟩) 1 (r.length+1) c 1) W:=fun W=>by
  rw [run_sliceAt_slice W 44 _ _ _ _ Zv5,run_slice_l W 44 (some ⟨b,off,none⟩) (r.length+1) c Zv5 .i64 1 (by omega) (by omega),Jex]
  rfl
 by_cases hc1:c=1
 ·refine ⟨some ⟨b,off,none⟩,fun W=>?_,.inl (List.eq_nil_of_length_eq_zero (by omega))⟩
  rw [l W]
  simp [sliced,hc1]
 ·refine ⟨some ⟨b,off+1,none⟩,fun W=>?_,.inr ⟨b,off+1,rfl,s,fun i y N=>?_⟩⟩
  ·rw [l W]
   simp [sliced,Addr.add]
   omega
  ·have:=d (i+1) y (by simpa using N)
   rwa [show off+(i+1)=off+1+i by omega] at this
theorem Zfk.set {w:World} {f g:Nat} {a:Option Addr} {ks:List ByteArray} (h:Zfk w f g a ks) (v:Value):Zfk (w.setCell ⟨g,0,none⟩ v) f g a ks :=
 h.imp id fun ⟨b,off,e,s,d⟩=>⟨b,off,e,s,fun i x M=>(World.cell?_of_block (Below.heap_setCell _ _ _ _ (Nat.ne_of_lt s.2))).trans (d i x M)⟩
theorem Zv6 (g:Nat) (a:Option Addr) (c:Nat) (w:World) (h:Rec w g #[.slice a 0 c] 44):Calls Tryz.prog 138 #[.pointer (some ⟨g,0,none⟩)] w fun e w'=>e=.returned (.tuple #[.string ⟨#[]⟩,.bool false])/\w'=w:=by
 have c0:=h.cell 0 rfl
 clear h
 go_enter Tryz.func138,Tryz.ntmps138
 go_wp2_with fail
 go_ret2
 exact ⟨rfl,rfl⟩
def Zc9 (x:ByteArray) (r:List ByteArray):List ByteArray:=r.dropWhile fun y=>y.toList==x.toList
def Zpi (w:World) (g:Nat):Nat:=match w.cell? ⟨g,0,none⟩ with | some (.slice _ n _)=>n | _=>0
theorem Zf7 {w:World} {g:Nat} {a:Option Addr} {n c:Nat} (h:Rec w g #[.slice a n c] 44):Zpi w g=n:=by
 unfold Zpi
 have e:w.cell? ⟨g,0,none⟩=some (.slice a n c):=h.cell 0 rfl
 rw [e]
structure Jd4 (w:World) (f g:Nat) (wr:World) (ks:List ByteArray):Prop where
 at_:∃ a c,Rec wr g #[.slice a ks.length c] 44/\Zfk wr f g a ks/\ks.length<=c/\c<=9223372036854775807
 size:wr.heap.size=w.heap.size
 other:∀ b,b≠g->wr.heap[b]?=w.heap[b]?
 below:Below g w wr
set_option maxHeartbeats 4000000 in
theorem Zv7 (f g:Nat) (x:ByteArray) (r:List ByteArray) (w:World) (h:Jd4 w f g w (x::r)) :
  Calls Tryz.prog 138 #[.pointer (some ⟨g,0,none⟩)] w fun e w'=>e=.returned (.tuple #[.string x,.bool true])/\Jd4 w f g w' (Zc9 x r):=by
 have P:=Zb h
 obtain ⟨a,c,j,o,h1,h2⟩:=h.at_
 obtain ⟨b,off,e1,s,d⟩:=o.resolve_left (by simp)
 subst e1
 have c0:w.cell? ⟨g,0,none⟩=some (.slice (some ⟨b,off,none⟩) (r.length+1) c):=j.cell 0 rfl
 have d0:w.cell? ⟨b,off,none⟩=some (.string x):=d 0 x rfl
 have G:((r.length+1:Nat):Int)≠0:=by omega
 clear h j o h1 d
 go_enter Tryz.func138,Tryz.ntmps138
 go_wp2_with fail
 go_loopw [10] (fun _ wr=>∃ ks,Jd4 w f g wr ks/\ks.dropWhile (fun y=>y.toList==x.toList)=Zc9 x r) (fun _ wr=>Zpi wr g)
 case atStart=>exact ⟨x::r,P.out,by simp [Zc9,List.dropWhile]⟩
 case round =>
  obtain ⟨ks,D,t⟩:=hrel
  have u:=Zb D
  have E:=Zb t
  clear t c0 d0
  obtain ⟨C,B,j,o,h3,T⟩:=D.at_
  have H:=Zb (Zf7 j)
  cases ks with
  | nil =>
   have O:wr.cell? ⟨g,0,none⟩=some (.slice C 0 B):=j.cell 0 rfl
   clear j o D H
   go_wp2_with fail
   go_ret2
   have e:Zc9 x r=[]:=E.out.symm
   exact ⟨rfl,by rw [e];exact u.out⟩
  | cons y r' =>
   obtain ⟨I,k,e1,Q,d⟩:=o.resolve_left (by simp)
   obtain ⟨a3,L,A⟩:=Zzw o B h3
   subst e1
   have O:wr.cell? ⟨g,0,none⟩=some (.slice (some ⟨I,k,none⟩) (r'.length+1) B):=j.cell 0 rfl
   have k1:wr.cell? ⟨I,k,none⟩=some (.string y):=d 0 y rfl
   have S:=j.z 0
   have G:(0:Int)<((r'.length+1:Nat):Int):=by omega
   have F:=Zb A
   have m:=Zb j
   simp only [List.length_cons] at H h3
   clear d A o j D
   cases hxy:(y.toList==x.toList) with
   | true =>
    go_wp2_with fail
    go_roundw
    case rel =>
     refine ⟨r',⟨⟨a3,B - 1,m.out.set 0 _,F.out.set _,by omega,by omega⟩,?_,?_,?_⟩,?_⟩
     ·simp [u.out.size]
     ·intro q K
      rw [Below.heap_setCell _ _ _ _ K];exact u.out.other q K
     ·exact u.out.below.setCell (p:=⟨g,0,none⟩) (Nat.le_refl _) _
     ·have:=E.out
      rwa [List.dropWhile_cons,if_pos hxy] at this
    case measure =>
     rw [H.out,Zf7 (m.out.set 0 _)]
     omega
   | false =>
    go_wp2_with fail
    go_ret2
    have e:Zc9 x r=y::r':=by
     have:=E.out
     rw [List.dropWhile_cons,if_neg (by simp [hxy])] at this
     exact this.symm
    exact ⟨rfl,by rw [e];exact u.out⟩
end
section
open Go.RowKit Go.Shelf
attribute [local go_sem] Oper.semAt_some
set_option maxRecDepth 100000 in
theorem Zqf (a:Option Addr) (n c:Nat) (w:World):Calls Tryz.prog 137 #[.slice a n c] w fun e w'=>e=.returned (.func (.func 176) #[] #[.pointer (some ⟨w.heap.size,0,none⟩)])/\w'=w.alloc (.cells #[.slice a n c] 44):=by
 go_enter Tryz.func137,Tryz.ntmps137
 go_wp2_with fail
 go_ret
 exact ⟨rfl,rfl⟩
end
