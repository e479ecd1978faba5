/- Two statements of AddNode, in whatever order their operations are done. -/
import Derived.Test.YteddjlbfbpecjaaGreatDoorJoin2
import Derived.Test.YteddjlbfbpecjaaGreatDoorJoin5
import Derived.Test.YteddjlbfbpecjaaGreatDoorJoin1
import Derived.Test.YteddjlbfbpecjaaGreatDoorJoin4
import Derived.Laws.Slices
import Derived.Test.YteddjlbfbpecjaaGreatDoorJoin3
namespace Go.Proofs.YteddjlbfbpecjaaGreatDoor
section
open Go.RowKit Go.Shelf Go.WideShapes
set_option maxHeartbeats 4000000
set_option maxRecDepth 100000
set_option linter.all false
def KB (K:World→Value→Prop) (w:World) (v:Value):Prop:=∃ W,K W v∧Below W.heap.size W w
theorem KB.grow {K:World→Value→Prop} {w w':World} {v:Value} (h:KB K w v) (hb:Below w.heap.size w w'):KB K w' v:=by
 obtain ⟨W,h1,h2⟩:=h
 exact ⟨W,h1,h2.trans (hb.mono h2.size)⟩
noncomputable def Zi2  : Array Oper:=Jg Tryz.f30 7
def Je6  : List Sig:=[⟨33,.move (.tmp 0),31,none⟩,⟨34,.nilCheck (.tmp 33),0,none⟩,⟨35,.fieldAddr 74 (.tmp 34) 0,0,none⟩,⟨36,.fieldAddr 71 (.tmp 35) 2,0,none⟩,⟨37,.load 2 (.tmp 36),2,none⟩,⟨38,.move (.tmp 2),45,none⟩,⟨39,.call { callee:=.value (.func 88),args:=#[.tmp 38],argTypes:=#[45] },45,none⟩,⟨40,.build 47 #[(0,.tmp 37),(2,.tmp 39)],47,none⟩,⟨8,.alloc 47,0,none⟩]
theorem Jb1  : (Jq Zi2).take Je6.length=Je6.map some:=by kernel_rfl
def Zh0 (i:Nat):List Nat:=nth [] [[],[0],[1],[2],[3],[],[5],[4,6],[],[0,1,2,3,4,5,6,7,8]] i
def Za2 (p:GP) (nn:Int) (pv:Value) (B0:Nat) (K:World→Value→Prop):List (Value→World→Prop) :=
 [eqv (.pointer (some ⟨p.g,0,none⟩)),eqv (.pointer (some ⟨p.g,0,none⟩)),eqv (.pointer (some ⟨p.g,0,none⟩)),eqv (.pointer (some ⟨p.g,2,none⟩)),eqv (.int .i64 nn),eqv (pv),fun v w=>∃ a n c,v=.slice a n c∧KB K w v,fun v w=>∃ a n c,v=.agg #[.int .i64 nn,.slice none 0 0,.slice a n c]∧KB K w (.slice a n c),fun v w=>∃ X,v=.pointer (some ⟨X,0,none⟩)∧B0≤X∧Rec w X #[.int .i64 0,.slice none 0 0,.slice none 0 0] 47]
structure Zgi (p:GP) (nn:Int) (pv:Value) (B0:Nat) (K:World→Value→Prop) (c:Act):Prop where
 t0:c.eval (.tmp 0)=.pointer (some ⟨p.g,0,none⟩)
 t2:c.eval (.tmp 2)=pv
structure Zek (p:GP) (nn:Int) (pv:Value) (B0:Nat) (K:World→Value→Prop) (w:World):Prop where
 c2:w.cell? ⟨p.g,2,none⟩=some (.int .i64 nn)
 b0:B0≤w.heap.size
 k6:Calls Tryz.prog 88 #[pv] w fun e w'=>∃ a n c,e=.returned (.slice a n c)∧K w' (.slice a n c)∧Below w.heap.size w w'
theorem Jb2 (p:GP) (nn:Int) (pv:Value) (B0:Nat) (K:World→Value→Prop) (Q:Exit→Act→World→Prop) (c:Act) (w:World) (hb:Zgi p nn pv B0 K c) (hW:Zek p nn pv B0 K w) (hF:∀ q0 ∈ Zh0 6,Zf (Za2 p nn pv B0 K) q0 (val Zi2 c q0) w) :
  Zak Tryz.prog Zi2 Q (Zf (Za2 p nn pv B0 K)) 6 c w:=by
 have ho:Zi2[6]?=some (⟨some 39,.call { callee:=.value (.func 88),args:=#[.tmp 38],argTypes:=#[45] },45, "edit.go:22",#[⟨5,.data⟩],none⟩:Oper):=by kernel_rfl
 have e38:c.eval (.tmp 38)=pv:=Zi (by kernel_rfl) rfl (hF 5 (by decide))
 have hw:Region.wanted (⟨some 39,.call { callee:=.value (.func 88),args:=#[.tmp 38],argTypes:=#[45] },45, "edit.go:22",#[⟨5,.data⟩],none⟩:Oper) (yielded Zi2 c.tmps)=true:=Zn rfl
 have ec:=evc c
 have ef:=evf c
 refine Zcd ho hw (f:=88) (args:=#[pv]) ?_ (hW.k6.mono fun e w' ⟨a,n,c,h1,h2,h3⟩=>⟨_,h1,⟨a,n,c,rfl,w',h2,Below.refl _ _⟩,h3⟩)
 generalize c.eval=ρ at *
 clear hF hb hW hw ho
 go_simp
theorem Jb3 (p:GP) (nn:Int) (pv:Value) (B0:Nat) (K:World→Value→Prop) (Q:Exit→Act→World→Prop) (c:Act) (w:World) (hb:Zgi p nn pv B0 K c) (hW:Zek p nn pv B0 K w) (hF:∀ q0 ∈ Zh0 7,Zf (Za2 p nn pv B0 K) q0 (val Zi2 c q0) w) :
  Zak Tryz.prog Zi2 Q (Zf (Za2 p nn pv B0 K)) 7 c w:=by
 have ho:Zi2[7]?=some (⟨some 40,.build 47 #[(0,.tmp 37),(2,.tmp 39)],47, "edit.go:22",#[⟨4,.data⟩,⟨6,.data⟩],none⟩:Oper):=by kernel_rfl
 have e37:c.eval (.tmp 37)=.int .i64 nn:=Zi (by kernel_rfl) rfl (hF 4 (by decide))
 have f39:(fun v w=>∃ a n c,v=.slice a n c∧KB K w v) (c.eval (.tmp 39)) w:=Je (by kernel_rfl) rfl (hF 6 (by decide))
 have hw:Region.wanted (⟨some 40,.build 47 #[(0,.tmp 37),(2,.tmp 39)],47, "edit.go:22",#[⟨4,.data⟩,⟨6,.data⟩],none⟩:Oper) (yielded Zi2 c.tmps)=true:=Zn rfl
 have ec:=evc c
 have ef:=evf c
 obtain ⟨a,n,cc,e39,hk⟩:=f39
 rw [e39] at hk
 refine Ze ho hw (v:=.agg #[.int .i64 nn,.slice none 0 0,.slice a n cc]) ?_ ⟨a,n,cc,rfl,hk⟩ (Below.refl _ _)
 generalize c.eval=ρ at *
 clear hF hb hW hw ho
 go_simp
theorem Jb4 (p:GP) (nn:Int) (pv:Value) (B0:Nat) (K:World→Value→Prop) (Q:Exit→Act→World→Prop) (c:Act) (w:World) (hb:Zgi p nn pv B0 K c) (hW:Zek p nn pv B0 K w) (hF:∀ q0 ∈ Zh0 8,Zf (Za2 p nn pv B0 K) q0 (val Zi2 c q0) w) :
  Zak Tryz.prog Zi2 Q (Zf (Za2 p nn pv B0 K)) 8 c w:=by
 have ho:Zi2[8]?=some (⟨some 8,.alloc 47,0, "edit.go:22",#[],none⟩:Oper):=by kernel_rfl
 have hw:Region.wanted (⟨some 8,.alloc 47,0, "edit.go:22",#[],none⟩:Oper) (yielded Zi2 c.tmps)=true:=Zn rfl
 have ec:=evc c
 have ef:=evf c
 refine Ze ho hw (v:=.pointer (some ⟨w.heap.size,0,none⟩)) (w':=w.alloc (.cells #[.int .i64 0,.slice none 0 0,.slice none 0 0] 47)) ?_ ⟨w.heap.size,rfl,hW.b0,Zl _ _ _⟩ ((Below.refl _ _).alloc (Nat.le_refl _) _)
 generalize c.eval=ρ at *
 clear hF hb hW hw ho
 go_simp
theorem Ztr (p:GP) (nn:Int) (pv:Value) (B0:Nat) (K:World→Value→Prop):∀ pr ∈ Za2 p nn pv B0 K,Zbv pr:=by
 unfold Za2
 iterate 9 (first | refine List.forall_mem_cons.2 ⟨Jb _,?_⟩ | refine List.forall_mem_cons.2 ⟨fun v w w' ⟨a,n,c,h,hk⟩ hb=>⟨a,n,c,h,hk.grow hb⟩,?_⟩ | refine List.forall_mem_cons.2 ⟨fun v w w' ⟨a,n,c,h,hk⟩ hb=>⟨a,n,c,h,hk.grow hb⟩,?_⟩ | refine List.forall_mem_cons.2 ⟨fun v w w' ⟨X,h,hX,hr⟩ hb=>⟨X,h,hX,hr.below hb hr.lt⟩,?_⟩)
 exact List.forall_mem_nil _
theorem Jb5 (p:GP) (nn:Int) (pv:Value) (B0:Nat) (K:World→Value→Prop) (Q:Exit→Act→World→Prop):∀ i,i<9→(fun i=>i ∉ ([6,7,8]:List Nat)→∀ c w,Zgi p nn pv B0 K c→Zek p nn pv B0 K w→(∀ q0 ∈ Zh0 i,Zf (Za2 p nn pv B0 K) q0 (val Zi2 c q0) w)→Zak Tryz.prog Zi2 Q (Zf (Za2 p nn pv B0 K)) i c w) i:=by
 iterate 9 (refine Zd ?_ (by
  intro hn c w hb hW hF
  first
  | exact absurd (by decide) hn
  | (have hEq:=Zag Jb1 (by decide) hF
     refine Zar Jb1 (by decide) rfl (fun _=>rfl) ?_
     obtain ⟨t0,t2⟩:=hb
     obtain ⟨c2,b0,k6⟩:=hW
     have ec:=evc c
     have ef:=evf c
     dsimp only [Zh0,Je6,Za2,nth,Zcp,Zbd,eqv] at hEq ⊢
     refine .inl fun pos af=>?_
     clear hF hn k6
     dsimp only [Sig.oper]
     generalize c.eval=ρ at *
     go_simp
     done)))
 exact Zj
theorem Jb6 (p:GP) (nn:Int) (pv:Value) (B0:Nat) (K:World→Value→Prop) (Q:Exit→Act→World→Prop):∀ i,i<9→(fun i=>∀ c w,Zgi p nn pv B0 K c→Zek p nn pv B0 K w→(∀ q0 ∈ Zh0 i,Zf (Za2 p nn pv B0 K) q0 (val Zi2 c q0) w)→Zak Tryz.prog Zi2 Q (Zf (Za2 p nn pv B0 K)) i c w) i:=by
 intro i hi
 by_cases h6:i=6
 ·subst h6;exact fun c w=>Jb2 p nn pv B0 K Q c w
 by_cases h7:i=7
 ·subst h7;exact fun c w=>Jb3 p nn pv B0 K Q c w
 by_cases h8:i=8
 ·subst h8;exact fun c w=>Jb4 p nn pv B0 K Q c w
 exact Jb5 p nn pv B0 K Q i hi (by simp [*])
theorem Zts (p:GP) (nn:Int) (pv:Value) (B0:Nat) (K:World→Value→Prop) (Q:Exit→Act→World→Prop) (base:Act) (w0:World) (hsz:base.tmps.size=79) (hb:Zgi p nn pv B0 K base)
  (hW:∀ w,Below w0.heap.size w0 w→Zek p nn pv B0 K w) (hL:∀ c w,Zae Zi2 base c→Below w0.heap.size w0 w→(fun v w=>∃ a n c,v=.agg #[.int .i64 nn,.slice none 0 0,.slice a n c]∧KB K w (.slice a n c)) (c.eval (.tmp 40)) w→(fun v w=>∃ X,v=.pointer (some ⟨X,0,none⟩)∧B0≤X∧Rec w X #[.int .i64 0,.slice none 0 0,.slice none 0 0] 47) (c.eval (.tmp 8)) w→∃ w',(execOp c.eval (⟨none,.store 47 (.tmp 8) (.tmp 40),0, "edit.go:22",#[⟨8,.data⟩,⟨7,.data⟩,⟨6,.chain⟩,⟨0,.phase⟩,⟨1,.phase⟩,⟨2,.phase⟩,⟨3,.phase⟩,⟨4,.phase⟩,⟨5,.phase⟩,⟨6,.phase⟩,⟨7,.phase⟩,⟨8,.phase⟩],none⟩:Oper)).run Tryz.prog w=.ok .skip w'∧Q .normal c w'):(Code.region 7 Zi2 true).wp Tryz.prog Q base w0:=by
 have hall:(List.range 9).all (fun i=>(Zu Zi2 i).isSome)=true:=by kernel_rfl
 refine Zb3 (A:=Zh0) (F:=Zf (Za2 p nn pv B0 K)) 9 (by kernel_rfl) (by kernel_rfl) (by kernel_rfl) (by rw [hsz];kernel_rfl) ?_ (by decide) (fun i v w w'=>Jd (Ztr p nn pv B0 K) i v w w') ?_ ?_
 ·exact fun i hi=>Option.isSome_iff_exists.1 (List.all_eq_true.1 hall i (List.mem_range.2 hi))
 ·intro i hi c w hS hB hF
  exact Jb6 p nn pv B0 K Q i hi c w ⟨(Zc hS (by kernel_rfl)).trans hb.t0,(Zc hS (by kernel_rfl)).trans hb.t2⟩ (hW w hB) hF
 ·intro c w hS hB hF
  obtain ⟨w',h1,h2⟩:=hL c w hS hB (Je (p:=fun v w=>∃ a n c,v=.agg #[.int .i64 nn,.slice none 0 0,.slice a n c]∧KB K w (.slice a n c)) (by kernel_rfl) rfl (hF 7 (by omega))) (Je (p:=fun v w=>∃ X,v=.pointer (some ⟨X,0,none⟩)∧B0≤X∧Rec w X #[.int .i64 0,.slice none 0 0,.slice none 0 0] 47) (by kernel_rfl) rfl (hF 8 (by omega)))
  exact Za6 (by kernel_rfl) (Zn rfl) h1 h2
noncomputable def Zke  : Array Oper:=Jg Tryz.f30 13
def Zz2  : List Sig:=[⟨60,.move (.tmp 0),31,none⟩,⟨61,.nilCheck (.tmp 60),0,none⟩,⟨62,.fieldAddr 74 (.tmp 61) 0,0,none⟩,⟨63,.fieldAddr 71 (.tmp 62) 0,0,none⟩,⟨64,.load 68 (.tmp 63),68,none⟩,⟨65,.fieldAddr 47 (.tmp 8) 0,0,none⟩,⟨66,.load 2 (.tmp 65),2,none⟩,⟨67,.load 47 (.tmp 8),47,none⟩]
theorem Zyx  : (Jq Zke).take Zz2.length=Zz2.map some:=by kernel_rfl
def Zkf (i:Nat):List Nat:=nth [] [[],[0],[1],[2],[3],[],[5],[],[0,1,2,3,4,5,6,7]] i
def Zb7 (p:GP) (nn:Int) (X:Nat) (la pa:Option Addr) (ln lc pn pc:Nat):List (Value→World→Prop) :=
 [eqv (.pointer (some ⟨p.g,0,none⟩)),eqv (.pointer (some ⟨p.g,0,none⟩)),eqv (.pointer (some ⟨p.g,0,none⟩)),eqv (.pointer (some ⟨p.g,0,none⟩)),eqv (.map (some p.n)),eqv (.pointer (some ⟨X,0,none⟩)),eqv (.int .i64 nn),eqv (.agg #[.int .i64 nn,.slice la ln lc,.slice pa pn pc])]
structure Zkg (p:GP) (nn:Int) (X:Nat) (la pa:Option Addr) (ln lc pn pc:Nat) (c:Act):Prop where
 t0:c.eval (.tmp 0)=.pointer (some ⟨p.g,0,none⟩)
 t8:c.eval (.tmp 8)=.pointer (some ⟨X,0,none⟩)
structure Zh1 (p:GP) (nn:Int) (X:Nat) (la pa:Option Addr) (ln lc pn pc:Nat) (w:World):Prop where
 c0:w.cell? ⟨p.g,0,none⟩=some (.map (some p.n))
 x0:w.cell? ⟨X,0,none⟩=some (.int .i64 nn)
 x1:w.cell? ⟨X,1,none⟩=some (.slice la ln lc)
 x2:w.cell? ⟨X,2,none⟩=some (.slice pa pn pc)
theorem Zqx (p:GP) (nn:Int) (X:Nat) (la pa:Option Addr) (ln lc pn pc:Nat):∀ pr ∈ Zb7 p nn X la pa ln lc pn pc,Zbv pr:=by
 unfold Zb7
 iterate 8 (first | refine List.forall_mem_cons.2 ⟨Jb _,?_⟩)
 exact List.forall_mem_nil _
theorem Zz3 (p:GP) (nn:Int) (X:Nat) (la pa:Option Addr) (ln lc pn pc:Nat) (Q:Exit→Act→World→Prop):∀ i,i<8→(fun i=>i ∉ ([]:List Nat)→∀ c w,Zkg p nn X la pa ln lc pn pc c→Zh1 p nn X la pa ln lc pn pc w→(∀ q0 ∈ Zkf i,Zf (Zb7 p nn X la pa ln lc pn pc) q0 (val Zke c q0) w)→Zak Tryz.prog Zke Q (Zf (Zb7 p nn X la pa ln lc pn pc)) i c w) i:=by
 iterate 8 (refine Zd ?_ (by
  intro hn c w hb hW hF
  first
  | exact absurd (by decide) hn
  | (have hEq:=Zag Zyx (by decide) hF
     refine Zar Zyx (by decide) rfl (fun _=>rfl) ?_
     obtain ⟨t0,t8⟩:=hb
     obtain ⟨c0,x0,x1,x2⟩:=hW
     have ec:=evc c
     have ef:=evf c
     dsimp only [Zkf,Zz2,Zb7,nth,Zcp,Zbd,eqv] at hEq ⊢
     refine .inl fun pos af=>?_
     clear hF hn
     dsimp only [Sig.oper]
     generalize c.eval=ρ at *
     go_simp
     done)))
 exact Zj
theorem Zz4 (p:GP) (nn:Int) (X:Nat) (la pa:Option Addr) (ln lc pn pc:Nat) (Q:Exit→Act→World→Prop):∀ i,i<8→(fun i=>∀ c w,Zkg p nn X la pa ln lc pn pc c→Zh1 p nn X la pa ln lc pn pc w→(∀ q0 ∈ Zkf i,Zf (Zb7 p nn X la pa ln lc pn pc) q0 (val Zke c q0) w)→Zak Tryz.prog Zke Q (Zf (Zb7 p nn X la pa ln lc pn pc)) i c w) i:=by
 intro i hi
 exact Zz3 p nn X la pa ln lc pn pc Q i hi (by simp [*])
theorem Zqy (p:GP) (nn:Int) (X:Nat) (la pa:Option Addr) (ln lc pn pc:Nat) (Q:Exit→Act→World→Prop) (base:Act) (w0:World) (hsz:base.tmps.size=79) (hb:Zkg p nn X la pa ln lc pn pc base)
  (hW:∀ w,Below w0.heap.size w0 w→Zh1 p nn X la pa ln lc pn pc w) (hL:∀ c w,Zae Zke base c→Below w0.heap.size w0 w→c.eval (.tmp 64)=.map (some p.n)→c.eval (.tmp 66)=.int .i64 nn→c.eval (.tmp 67)=.agg #[.int .i64 nn,.slice la ln lc,.slice pa pn pc]→∃ w',(execOp c.eval (⟨none,.mapUpdate 68 (.tmp 64) (.tmp 66) (.tmp 67),0, "edit.go:27",#[⟨4,.data⟩,⟨6,.data⟩,⟨7,.data⟩,⟨0,.phase⟩,⟨1,.phase⟩,⟨2,.phase⟩,⟨3,.phase⟩,⟨4,.phase⟩,⟨5,.phase⟩,⟨6,.phase⟩,⟨7,.phase⟩],none⟩:Oper)).run Tryz.prog w=.ok .skip w'∧Q .normal c w'):(Code.region 13 Zke true).wp Tryz.prog Q base w0:=by
 have hall:(List.range 8).all (fun i=>(Zu Zke i).isSome)=true:=by kernel_rfl
 refine Zb3 (A:=Zkf) (F:=Zf (Zb7 p nn X la pa ln lc pn pc)) 8 (by kernel_rfl) (by kernel_rfl) (by kernel_rfl) (by rw [hsz];kernel_rfl) ?_ (by decide) (fun i v w w'=>Jd (Zqx p nn X la pa ln lc pn pc) i v w w') ?_ ?_
 ·exact fun i hi=>Option.isSome_iff_exists.1 (List.all_eq_true.1 hall i (List.mem_range.2 hi))
 ·intro i hi c w hS hB hF
  exact Zz4 p nn X la pa ln lc pn pc Q i hi c w ⟨(Zc hS (by kernel_rfl)).trans hb.t0,(Zc hS (by kernel_rfl)).trans hb.t8⟩ (hW w hB) hF
 ·intro c w hS hB hF
  obtain ⟨w',h1,h2⟩:=hL c w hS hB (Je (p:=eqv (.map (some p.n))) (by kernel_rfl) rfl (hF 4 (by omega))) (Je (p:=eqv (.int .i64 nn)) (by kernel_rfl) rfl (hF 6 (by omega))) (Je (p:=eqv (.agg #[.int .i64 nn,.slice la ln lc,.slice pa pn pc])) (by kernel_rfl) rfl (hF 7 (by omega)))
  exact Za6 (by kernel_rfl) (Zn rfl) h1 h2
end
section
open Go.RowKit Go.Shelf
set_option maxRecDepth 10000
set_option linter.all false
structure Put (X:Nat) (w w':World) (cs:Array Value) (ty:TypeId):Prop where
 r:Rec w' X cs ty
 other:∀ i,i≠X→w'.heap[i]?=w.heap[i]?
 size:w'.heap.size=w.heap.size
 below:Below X w w'
theorem Zce {X:Nat} {w w':World} {cs:Array Value} {ty:TypeId} (h:Put X w w' cs ty) (i:Nat) (v:Value):Put X w (w'.setCell ⟨X,i,none⟩ v) (cs.setIfInBounds i v) ty :=
 ⟨h.r.set i v,fun j hj=>(Below.heap_setCell _ _ _ _ hj).trans (h.other j hj),by simp [World.setCell,h.size],h.below.setCell (Nat.le_refl _) _⟩
theorem Zjy {X:Nat} {w:World} {cs:Array Value} {ty:TypeId} (h:Rec w X cs ty):Put X w w cs ty:=⟨h,fun _ _=>rfl,rfl,Below.refl _ _⟩
theorem Zzd (ρ:Operand→Value) (X:Nat) (w:World) (u0 u1 u2:Value) (nn:Int) (pa:Option Addr) (pn pc:Nat) (h:Rec w X #[u0,u1,u2] 47) (e8:ρ (.tmp 8)=.pointer (some ⟨X,0,none⟩)) (e40:ρ (.tmp 40)=.agg #[.int .i64 nn,.slice none 0 0,.slice pa pn pc]) :
  ∃ w',(execOp ρ (⟨none,.store 47 (.tmp 8) (.tmp 40),0, "edit.go:22",#[⟨8,.data⟩,⟨7,.data⟩,⟨6,.chain⟩,⟨0,.phase⟩,⟨1,.phase⟩,⟨2,.phase⟩,⟨3,.phase⟩,⟨4,.phase⟩,⟨5,.phase⟩,⟨6,.phase⟩,⟨7,.phase⟩,⟨8,.phase⟩],none⟩:Oper)).run Tryz.prog w=.ok .skip w'∧Put X w w' #[.int .i64 nn,.slice none 0 0,.slice pa pn pc] 47:=by
 have c0:=h.cell 0 rfl
 have c1:=h.cell 1 rfl
 have c2:=h.cell 2 rfl
 have z0:=h.z 0
 have z1:=h.z 1
 have z2:=h.z 2
 refine ⟨((w.setCell ⟨X,0,none⟩ (.int .i64 nn)).setCell ⟨X,1,none⟩ (.slice none 0 0)).setCell ⟨X,2,none⟩ (.slice pa pn pc),?_,by simpa using Zce (Zce (Zce (Zjy h) 0 (.int .i64 nn)) 1 (.slice none 0 0)) 2 (.slice pa pn pc)⟩
 clear h
 go_simp
theorem Zze (ρ:Operand→Value) (X:Nat) (w:World) (u0 u1 u2 u3 u4:Value) (nn f t:Int) (s:ByteArray) (pa:Option Addr) (pn pc:Nat) (h:Rec w X #[u0,u1,u2,u3,u4] 49) (e8:ρ (.tmp 12)=.pointer (some ⟨X,0,none⟩)) (e40:ρ (.tmp 55)=.agg #[.int .i64 nn,.int .i64 f,.int .i64 t,.string s,.slice pa pn pc]) :
  ∃ w',(execOp ρ (⟨none,.store 49 (.tmp 12) (.tmp 55),0, "edit.go:44",#[⟨11,.data⟩,⟨10,.data⟩,⟨9,.chain⟩,⟨0,.phase⟩,⟨1,.phase⟩,⟨2,.phase⟩,⟨3,.phase⟩,⟨4,.phase⟩,⟨5,.phase⟩,⟨6,.phase⟩,⟨7,.phase⟩,⟨8,.phase⟩,⟨9,.phase⟩,⟨10,.phase⟩,⟨11,.phase⟩],none⟩:Oper)).run Tryz.prog w=.ok .skip w'∧Put X w w' #[.int .i64 nn,.int .i64 f,.int .i64 t,.string s,.slice pa pn pc] 49:=by
 have c0:=h.cell 0 rfl
 have c1:=h.cell 1 rfl
 have c2:=h.cell 2 rfl
 have c3:=h.cell 3 rfl
 have c4:=h.cell 4 rfl
 have z0:=h.z 0
 have z1:=h.z 1
 have z2:=h.z 2
 have z3:=h.z 3
 have z4:=h.z 4
 refine ⟨((((w.setCell ⟨X,0,none⟩ (.int .i64 nn)).setCell ⟨X,1,none⟩ (.int .i64 f)).setCell ⟨X,2,none⟩ (.int .i64 t)).setCell ⟨X,3,none⟩ (.string s)).setCell ⟨X,4,none⟩ (.slice pa pn pc),?_,by simpa using Zce (Zce (Zce (Zce (Zce (Zjy h) 0 (.int .i64 nn)) 1 (.int .i64 f)) 2 (.int .i64 t)) 3 (.string s)) 4 (.slice pa pn pc)⟩
 clear h
 go_simp
end
section
open Go.RowKit Go.Shelf
set_option maxRecDepth 100000
set_option linter.all false
attribute [local go_sem] Oper.semAt_some
def Ze8 (w:World) (lo g:Nat) (a:Option Addr) (ks:List ByteArray):Prop:=ks=[]∨∃ b off,a=some ⟨b,off,none⟩∧(lo≤b∧b<g)∧∀ i x,ks[i]?=some x→w.cell? ⟨b,off+i,none⟩=some (.string x)
theorem Zto  : Tryz.prog.underlying 44=some (.slice (Tryz.prog.elem 44)):=by kernel_rfl
theorem Jby (w:World):(Go.sizeOf (Tryz.prog.elem 44)).run Tryz.prog w=.ok 1 w:=by
 have e:Tryz.prog.elem 44=9:=by kernel_rfl
 rw [e];exact Tryz.sizeOf9 w
theorem Zw1 {w:World} {lo g:Nat} {a:Option Addr} {x:ByteArray} {r:List ByteArray} (h:Ze8 w lo g a (x::r)) (c:Nat) (hc:r.length+1≤c) :
  ∃ a',(∀ W,(Instr.sliceAt 44 (.slice a (r.length+1) c) (some (.int .i64 1)) none none).run Tryz.prog W=.ok (.slice a' r.length (c - 1)) W)∧Ze8 w lo g a' r:=by
 obtain ⟨b,off,rfl,hb,hat⟩:=h.resolve_left (by simp)
 have hrun:∀ W,(Instr.sliceAt 44 (.slice (some ⟨b,off,none⟩) (r.length+1) c) (some (.int .i64 1)) none none).run Tryz.prog W=.ok (sliced (some ⟨b,off,none⟩) 1 (r.length+1) c 1) W:=fun W=>by
  rw [run_sliceAt_slice W 44 _ _ _ _ Zto,run_slice_l W 44 (some ⟨b,off,none⟩) (r.length+1) c Zto .i64 1 (by omega) (by omega),Jby]
  rfl
 by_cases hc1:c=1
 ·refine ⟨some ⟨b,off,none⟩,fun W=>?_,.inl (List.eq_nil_of_length_eq_zero (by omega))⟩
  rw [hrun W]
  simp [sliced,hc1]
 ·refine ⟨some ⟨b,off+1,none⟩,fun W=>?_,.inr ⟨b,off+1,rfl,hb,fun i y hy=>?_⟩⟩
  ·rw [hrun W]
   simp [sliced,Addr.add]
   omega
  ·have:=hat (i+1) y (by simpa using hy)
   rwa [show off+(i+1)=off+1+i by omega] at this
theorem Ze8.set {w:World} {lo g:Nat} {a:Option Addr} {ks:List ByteArray} (h:Ze8 w lo g a ks) (v:Value):Ze8 (w.setCell ⟨g,0,none⟩ v) lo g a ks :=
 h.imp id fun ⟨b,off,e,hb,hat⟩=>⟨b,off,e,hb,fun i x hx=>(World.cell?_of_block (Below.heap_setCell _ _ _ _ (Nat.ne_of_lt hb.2))).trans (hat i x hx)⟩
theorem Ztp (g:Nat) (a:Option Addr) (c:Nat) (w:World) (h:Rec w g #[.slice a 0 c] 44):Calls Tryz.prog 138 #[.pointer (some ⟨g,0,none⟩)] w fun e w'=>e=.returned (.tuple #[.string ⟨#[]⟩,.bool false])∧w'=w:=by
 have c0:=h.cell 0 rfl
 clear h
 go_enter Tryz.func138,Tryz.ntmps138
 go_wp2_with fail
 go_ret2
 exact ⟨rfl,rfl⟩
def Zc2 (x:ByteArray) (r:List ByteArray):List ByteArray:=r.dropWhile fun y=>y.toList==x.toList
def Znj (w:World) (g:Nat):Nat:=match w.cell? ⟨g,0,none⟩ with | some (.slice _ n _)=>n | _=>0
theorem Zfv {w:World} {g:Nat} {a:Option Addr} {n c:Nat} (h:Rec w g #[.slice a n c] 44):Znj w g=n:=by
 unfold Znj
 have e:w.cell? ⟨g,0,none⟩=some (.slice a n c):=h.cell 0 rfl
 rw [e]
structure Jbb (w:World) (lo g:Nat) (wr:World) (ks:List ByteArray):Prop where
 at_:∃ a c,Rec wr g #[.slice a ks.length c] 44∧Ze8 wr lo g a ks∧ks.length≤c∧c≤9223372036854775807
 size:wr.heap.size=w.heap.size
 other:∀ b,b≠g→wr.heap[b]?=w.heap[b]?
 below:Below g w wr
set_option maxHeartbeats 4000000 in
theorem Ztq (lo g:Nat) (x:ByteArray) (r:List ByteArray) (w:World) (h:Jbb w lo g w (x::r)) :
  Calls Tryz.prog 138 #[.pointer (some ⟨g,0,none⟩)] w fun e w'=>e=.returned (.tuple #[.string x,.bool true])∧Jbb w lo g w' (Zc2 x r):=by
 have HH:=Zb h
 obtain ⟨a,c,hr,ht,h1,h2⟩:=h.at_
 obtain ⟨b,off,e1,hb,hat⟩:=ht.resolve_left (by simp)
 subst e1
 have c0:w.cell? ⟨g,0,none⟩=some (.slice (some ⟨b,off,none⟩) (r.length+1) c):=hr.cell 0 rfl
 have d0:w.cell? ⟨b,off,none⟩=some (.string x):=hat 0 x rfl
 have hl0:((r.length+1:Nat):Int)≠0:=by omega
 clear h hr ht h1 hat
 go_enter Tryz.func138,Tryz.ntmps138
 go_wp2_with fail
 go_loopw [10] (fun _ wr=>∃ ks,Jbb w lo g wr ks∧ks.dropWhile (fun y=>y.toList==x.toList)=Zc2 x r) (fun _ wr=>Znj wr g)
 case atStart=>exact ⟨x::r,HH.out,by simp [Zc2,List.dropWhile]⟩
 case round =>
  obtain ⟨ks,hR,hdw⟩:=hrel
  have HR:=Zb hR
  have HD:=Zb hdw
  clear hdw c0 d0
  obtain ⟨a',c',hr,ht,h3,h4⟩:=hR.at_
  have HM:=Zb (Zfv hr)
  cases ks with
  | nil =>
   have k0:wr.cell? ⟨g,0,none⟩=some (.slice a' 0 c'):=hr.cell 0 rfl
   clear hr ht hR HM
   go_wp2_with fail
   go_ret2
   have e:Zc2 x r=[]:=HD.out.symm
   exact ⟨rfl,by rw [e];exact HR.out⟩
  | cons y r' =>
   obtain ⟨b2,off2,e1,hb2,hat⟩:=ht.resolve_left (by simp)
   obtain ⟨a3,hsl,ht3⟩:=Zw1 ht c' h3
   subst e1
   have k0:wr.cell? ⟨g,0,none⟩=some (.slice (some ⟨b2,off2,none⟩) (r'.length+1) c'):=hr.cell 0 rfl
   have k1:wr.cell? ⟨b2,off2,none⟩=some (.string y):=hat 0 y rfl
   have z0:=hr.z 0
   have hl0:(0:Int)<((r'.length+1:Nat):Int):=by omega
   have HT3:=Zb ht3
   have HRec:=Zb hr
   simp only [List.length_cons] at HM h3
   clear hat ht3 ht hr hR
   cases hxy:(y.toList==x.toList) with
   | true =>
    go_wp2_with fail
    go_roundw
    case rel =>
     refine ⟨r',⟨⟨a3,c' - 1,HRec.out.set 0 _,HT3.out.set _,by omega,by omega⟩,?_,?_,?_⟩,?_⟩
     ·simp [HR.out.size]
     ·intro q hq
      rw [Below.heap_setCell _ _ _ _ hq];exact HR.out.other q hq
     ·exact HR.out.below.setCell (p:=⟨g,0,none⟩) (Nat.le_refl _) _
     ·have:=HD.out
      rwa [List.dropWhile_cons,if_pos hxy] at this
    case measure =>
     rw [HM.out,Zfv (HRec.out.set 0 _)]
     omega
   | false =>
    go_wp2_with fail
    go_ret2
    have e:Zc2 x r=y::r':=by
     have:=HD.out
     rw [List.dropWhile_cons,if_neg (by simp [hxy])] at this
     exact this.symm
    exact ⟨rfl,by rw [e];exact HR.out⟩
end
section
open Go.RowKit Go.Shelf
set_option linter.all false
attribute [local go_sem] Oper.semAt_some
set_option maxRecDepth 100000 in
theorem Zoh (a:Option Addr) (n c:Nat) (w:World):Calls Tryz.prog 137 #[.slice a n c] w fun e w'=>e=.returned (.func (.func 176) #[] #[.pointer (some ⟨w.heap.size,0,none⟩)])∧w'=w.alloc (.cells #[.slice a n c] 44):=by
 go_enter Tryz.func137,Tryz.ntmps137
 go_wp2_with fail
 go_ret
 exact ⟨rfl,rfl⟩
end
