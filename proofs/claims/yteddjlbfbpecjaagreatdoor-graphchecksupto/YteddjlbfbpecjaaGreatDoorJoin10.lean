/- Two statements of AddNode, in whatever order their operations are done. A node and a relationship are put into blocks of their own. The labels of a node, each once: the function that tells the next one. The texts of a list, as a function that tells them. -/
import Derived.Test.YteddjlbfbpecjaaGreatDoorJoin7
import Derived.Test.YteddjlbfbpecjaaGreatDoorJoin9
import Derived.Test.YteddjlbfbpecjaaGreatDoorJoin2
import Derived.Test.YteddjlbfbpecjaaGreatDoorJoin6
import Derived.Laws.Slices
namespace Go.Proofs.YteddjlbfbpecjaaGreatDoor
open Go.RowKit Go.Shelf Go.WideShapes
set_option maxHeartbeats 4000000
set_option maxRecDepth 100000
set_option linter.unusedVariables false
set_option linter.unusedSimpArgs false
def KB (K:World→Value→Prop) (w:World) (v:Value):Prop:=∃ W,K W v∧Below W.heap.size W w
theorem KB.grow {K:World→Value→Prop} {w w':World} {v:Value} (h:KB K w v) (hb:Below w.heap.size w w'):KB K w' v:=by
 obtain ⟨W,h1,h2⟩:=h
 exact ⟨W,h1,h2.trans (hb.mono h2.size)⟩
noncomputable def RAN7  : Array Oper:=regionAt Tryz.f30 7
def LAN7  : List Sig:=[⟨33,.move (.tmp 0),31,none⟩,⟨34,.nilCheck (.tmp 33),0,none⟩,⟨35,.fieldAddr 74 (.tmp 34) 0,0,none⟩,⟨36,.fieldAddr 71 (.tmp 35) 2,0,none⟩,⟨37,.load 2 (.tmp 36),2,none⟩,⟨38,.move (.tmp 2),45,none⟩,⟨39,.call { callee:=.value (.func 88),args:=#[.tmp 38],argTypes:=#[45] },45,none⟩,⟨40,.build 47 #[(0,.tmp 37),(2,.tmp 39)],47,none⟩,⟨8,.alloc 47,0,none⟩]
theorem hLAN7  : (sigsOf RAN7).take LAN7.length=LAN7.map some:=by kernel_rfl
def ancAN7 (i:Nat):List Nat:=nth [] [[],[0],[1],[2],[3],[],[5],[4,6],[],[0,1,2,3,4,5,6,7,8]] i
def factsAN7 (p:GP) (nn:Int) (pv:Value) (B0:Nat) (K:World→Value→Prop):List (Value→World→Prop) :=
 [eqv (.pointer (some ⟨p.g,0,none⟩)),eqv (.pointer (some ⟨p.g,0,none⟩)),eqv (.pointer (some ⟨p.g,0,none⟩)),eqv (.pointer (some ⟨p.g,2,none⟩)),eqv (.int .i64 nn),eqv (pv),fun v w=>∃ a n c,v=.slice a n c∧KB K w v,fun v w=>∃ a n c,v=.agg #[.int .i64 nn,.slice none 0 0,.slice a n c]∧KB K w (.slice a n c),fun v w=>∃ X,v=.pointer (some ⟨X,0,none⟩)∧B0≤X∧Rec w X #[.int .i64 0,.slice none 0 0,.slice none 0 0] 47]
structure BaseAN7 (p:GP) (nn:Int) (pv:Value) (B0:Nat) (K:World→Value→Prop) (c:Act):Prop where
 t0:c.eval (.tmp 0)=.pointer (some ⟨p.g,0,none⟩)
 t2:c.eval (.tmp 2)=pv
structure WorldAN7 (p:GP) (nn:Int) (pv:Value) (B0:Nat) (K:World→Value→Prop) (w:World):Prop where
 c2:w.cell? ⟨p.g,2,none⟩=some (.int .i64 nn)
 b0:B0≤w.heap.size
 k6:Calls Tryz.prog 88 #[pv] w fun e w'=>∃ a n c,e=.returned (.slice a n c)∧K w' (.slice a n c)∧Below w.heap.size w w'
theorem oAN7_6 (p:GP) (nn:Int) (pv:Value) (B0:Nat) (K:World→Value→Prop) (Q:Exit→Act→World→Prop) (c:Act) (w:World) (hb:BaseAN7 p nn pv B0 K c) (hW:WorldAN7 p nn pv B0 K w) (hF:∀ q0 ∈ ancAN7 6,factsAt (factsAN7 p nn pv B0 K) q0 (val RAN7 c q0) w) :
  Does Tryz.prog RAN7 Q (factsAt (factsAN7 p nn pv B0 K)) 6 c w:=by
 have ho:RAN7[6]?=some (⟨some 39,.call { callee:=.value (.func 88),args:=#[.tmp 38],argTypes:=#[45] },45, "edit.go:22",#[⟨5,.data⟩],none⟩:Oper):=by kernel_rfl
 have e38:c.eval (.tmp 38)=pv:=fact_eq (by kernel_rfl) rfl (hF 5 (by decide))
 have hw:Region.wanted (⟨some 39,.call { callee:=.value (.func 88),args:=#[.tmp 38],argTypes:=#[45] },45, "edit.go:22",#[⟨5,.data⟩],none⟩:Oper) (yielded RAN7 c.tmps)=true:=want_none rfl
 have ec:=evc c
 have ef:=evf c
 refine does_call ho hw (f:=88) (args:=#[pv]) ?_ (hW.k6.mono fun e w' ⟨a,n,c,h1,h2,h3⟩=>⟨_,h1,⟨a,n,c,rfl,w',h2,Below.refl _ _⟩,h3⟩)
 generalize c.eval=ρ at *
 clear hF hb hW hw ho
 go_simp
theorem oAN7_7 (p:GP) (nn:Int) (pv:Value) (B0:Nat) (K:World→Value→Prop) (Q:Exit→Act→World→Prop) (c:Act) (w:World) (hb:BaseAN7 p nn pv B0 K c) (hW:WorldAN7 p nn pv B0 K w) (hF:∀ q0 ∈ ancAN7 7,factsAt (factsAN7 p nn pv B0 K) q0 (val RAN7 c q0) w) :
  Does Tryz.prog RAN7 Q (factsAt (factsAN7 p nn pv B0 K)) 7 c w:=by
 have ho:RAN7[7]?=some (⟨some 40,.build 47 #[(0,.tmp 37),(2,.tmp 39)],47, "edit.go:22",#[⟨4,.data⟩,⟨6,.data⟩],none⟩:Oper):=by kernel_rfl
 have e37:c.eval (.tmp 37)=.int .i64 nn:=fact_eq (by kernel_rfl) rfl (hF 4 (by decide))
 have f39:(fun v w=>∃ a n c,v=.slice a n c∧KB K w v) (c.eval (.tmp 39)) w:=fact_at (by kernel_rfl) rfl (hF 6 (by decide))
 have hw:Region.wanted (⟨some 40,.build 47 #[(0,.tmp 37),(2,.tmp 39)],47, "edit.go:22",#[⟨4,.data⟩,⟨6,.data⟩],none⟩:Oper) (yielded RAN7 c.tmps)=true:=want_none rfl
 have ec:=evc c
 have ef:=evf c
 obtain ⟨a,n,cc,e39,hk⟩:=f39
 rw [e39] at hk
 refine does_value ho hw (v:=.agg #[.int .i64 nn,.slice none 0 0,.slice a n cc]) ?_ ⟨a,n,cc,rfl,hk⟩ (Below.refl _ _)
 generalize c.eval=ρ at *
 clear hF hb hW hw ho
 go_simp
theorem oAN7_8 (p:GP) (nn:Int) (pv:Value) (B0:Nat) (K:World→Value→Prop) (Q:Exit→Act→World→Prop) (c:Act) (w:World) (hb:BaseAN7 p nn pv B0 K c) (hW:WorldAN7 p nn pv B0 K w) (hF:∀ q0 ∈ ancAN7 8,factsAt (factsAN7 p nn pv B0 K) q0 (val RAN7 c q0) w) :
  Does Tryz.prog RAN7 Q (factsAt (factsAN7 p nn pv B0 K)) 8 c w:=by
 have ho:RAN7[8]?=some (⟨some 8,.alloc 47,0, "edit.go:22",#[],none⟩:Oper):=by kernel_rfl
 have hw:Region.wanted (⟨some 8,.alloc 47,0, "edit.go:22",#[],none⟩:Oper) (yielded RAN7 c.tmps)=true:=want_none rfl
 have ec:=evc c
 have ef:=evf c
 refine does_value ho hw (v:=.pointer (some ⟨w.heap.size,0,none⟩)) (w':=w.alloc (.cells #[.int .i64 0,.slice none 0 0,.slice none 0 0] 47)) ?_ ⟨w.heap.size,rfl,hW.b0,rec_new _ _ _⟩ ((Below.refl _ _).alloc (Nat.le_refl _) _)
 generalize c.eval=ρ at *
 clear hF hb hW hw ho
 go_simp
theorem stableAN7 (p:GP) (nn:Int) (pv:Value) (B0:Nat) (K:World→Value→Prop):∀ pr ∈ factsAN7 p nn pv B0 K,Stable pr:=by
 unfold factsAN7
 iterate 9 (first | refine List.forall_mem_cons.2 ⟨eqv_stable _,?_⟩ | refine List.forall_mem_cons.2 ⟨fun v w w' ⟨a,n,c,h,hk⟩ hb=>⟨a,n,c,h,hk.grow hb⟩,?_⟩ | refine List.forall_mem_cons.2 ⟨fun v w w' ⟨a,n,c,h,hk⟩ hb=>⟨a,n,c,h,hk.grow hb⟩,?_⟩ | refine List.forall_mem_cons.2 ⟨fun v w w' ⟨X,h,hX,hr⟩ hb=>⟨X,h,hX,hr.below hb hr.lt⟩,?_⟩)
 exact List.forall_mem_nil _
theorem uniAN7 (p:GP) (nn:Int) (pv:Value) (B0:Nat) (K:World→Value→Prop) (Q:Exit→Act→World→Prop):∀ i,i<9→(fun i=>i ∉ ([6,7,8]:List Nat)→∀ c w,BaseAN7 p nn pv B0 K c→WorldAN7 p nn pv B0 K w→(∀ q0 ∈ ancAN7 i,factsAt (factsAN7 p nn pv B0 K) q0 (val RAN7 c q0) w)→Does Tryz.prog RAN7 Q (factsAt (factsAN7 p nn pv B0 K)) i c w) i:=by
 iterate 9 (refine below_succ ?_ (by
  intro hn c w hb hW hF
  first
  | exact absurd (by decide) hn
  | (have hEq:=factsL_of hLAN7 (by decide) hF
     refine does_told hLAN7 (by decide) rfl (fun _=>rfl) ?_
     obtain ⟨t0,t2⟩:=hb
     obtain ⟨c2,b0,k6⟩:=hW
     have ec:=evc c
     have ef:=evf c
     dsimp only [ancAN7,LAN7,factsAN7,nth,FactsL,look,eqv] at hEq ⊢
     refine .inl fun pos af=>?_
     clear hF hn k6
     dsimp only [Sig.oper]
     generalize c.eval=ρ at *
     go_simp
     done)))
 exact below_zero
theorem allAN7 (p:GP) (nn:Int) (pv:Value) (B0:Nat) (K:World→Value→Prop) (Q:Exit→Act→World→Prop):∀ i,i<9→(fun i=>∀ c w,BaseAN7 p nn pv B0 K c→WorldAN7 p nn pv B0 K w→(∀ q0 ∈ ancAN7 i,factsAt (factsAN7 p nn pv B0 K) q0 (val RAN7 c q0) w)→Does Tryz.prog RAN7 Q (factsAt (factsAN7 p nn pv B0 K)) i c w) i:=by
 intro i hi
 by_cases h6:i=6
 ·subst h6;exact fun c w=>oAN7_6 p nn pv B0 K Q c w
 by_cases h7:i=7
 ·subst h7;exact fun c w=>oAN7_7 p nn pv B0 K Q c w
 by_cases h8:i=8
 ·subst h8;exact fun c w=>oAN7_8 p nn pv B0 K Q c w
 exact uniAN7 p nn pv B0 K Q i hi (by simp [*])
theorem regionAN7 (p:GP) (nn:Int) (pv:Value) (B0:Nat) (K:World→Value→Prop) (Q:Exit→Act→World→Prop) (base:Act) (w0:World) (hsz:base.tmps.size=79) (hb:BaseAN7 p nn pv B0 K base)
  (hW:∀ w,Below w0.heap.size w0 w→WorldAN7 p nn pv B0 K w) (hL:∀ c w,Same RAN7 base c→Below w0.heap.size w0 w→(fun v w=>∃ a n c,v=.agg #[.int .i64 nn,.slice none 0 0,.slice a n c]∧KB K w (.slice a n c)) (c.eval (.tmp 40)) w→(fun v w=>∃ X,v=.pointer (some ⟨X,0,none⟩)∧B0≤X∧Rec w X #[.int .i64 0,.slice none 0 0,.slice none 0 0] 47) (c.eval (.tmp 8)) w→∃ w',(execOp c.eval (⟨none,.store 47 (.tmp 8) (.tmp 40),0, "edit.go:22",#[⟨8,.data⟩,⟨7,.data⟩,⟨6,.chain⟩,⟨0,.phase⟩,⟨1,.phase⟩,⟨2,.phase⟩,⟨3,.phase⟩,⟨4,.phase⟩,⟨5,.phase⟩,⟨6,.phase⟩,⟨7,.phase⟩,⟨8,.phase⟩],none⟩:Oper)).run Tryz.prog w=.ok .skip w'∧Q .normal c w'):(Code.region 7 RAN7 true).wp Tryz.prog Q base w0:=by
 have hall:(List.range 9).all (fun i=>(slotOf RAN7 i).isSome)=true:=by kernel_rfl
 refine facts_last (A:=ancAN7) (F:=factsAt (factsAN7 p nn pv B0 K)) 9 (by kernel_rfl) (by kernel_rfl) (by kernel_rfl) (by rw [hsz];kernel_rfl) ?_ (by decide) (fun i v w w'=>factsAt_stable (stableAN7 p nn pv B0 K) i v w w') ?_ ?_
 ·exact fun i hi=>Option.isSome_iff_exists.1 (List.all_eq_true.1 hall i (List.mem_range.2 hi))
 ·intro i hi c w hS hB hF
  exact allAN7 p nn pv B0 K Q i hi c w ⟨(same_eval hS (by kernel_rfl)).trans hb.t0,(same_eval hS (by kernel_rfl)).trans hb.t2⟩ (hW w hB) hF
 ·intro c w hS hB hF
  obtain ⟨w',h1,h2⟩:=hL c w hS hB (fact_at (p:=fun v w=>∃ a n c,v=.agg #[.int .i64 nn,.slice none 0 0,.slice a n c]∧KB K w (.slice a n c)) (by kernel_rfl) rfl (hF 7 (by omega))) (fact_at (p:=fun v w=>∃ X,v=.pointer (some ⟨X,0,none⟩)∧B0≤X∧Rec w X #[.int .i64 0,.slice none 0 0,.slice none 0 0] 47) (by kernel_rfl) rfl (hF 8 (by omega)))
  exact last_skip (by kernel_rfl) (want_none rfl) h1 h2
noncomputable def RAN13  : Array Oper:=regionAt Tryz.f30 13
def LAN13  : List Sig:=[⟨60,.move (.tmp 0),31,none⟩,⟨61,.nilCheck (.tmp 60),0,none⟩,⟨62,.fieldAddr 74 (.tmp 61) 0,0,none⟩,⟨63,.fieldAddr 71 (.tmp 62) 0,0,none⟩,⟨64,.load 68 (.tmp 63),68,none⟩,⟨65,.fieldAddr 47 (.tmp 8) 0,0,none⟩,⟨66,.load 2 (.tmp 65),2,none⟩,⟨67,.load 47 (.tmp 8),47,none⟩]
theorem hLAN13  : (sigsOf RAN13).take LAN13.length=LAN13.map some:=by kernel_rfl
def ancAN13 (i:Nat):List Nat:=nth [] [[],[0],[1],[2],[3],[],[5],[],[0,1,2,3,4,5,6,7]] i
def factsAN13 (p:GP) (nn:Int) (X:Nat) (la pa:Option Addr) (ln lc pn pc:Nat):List (Value→World→Prop) :=
 [eqv (.pointer (some ⟨p.g,0,none⟩)),eqv (.pointer (some ⟨p.g,0,none⟩)),eqv (.pointer (some ⟨p.g,0,none⟩)),eqv (.pointer (some ⟨p.g,0,none⟩)),eqv (.map (some p.n)),eqv (.pointer (some ⟨X,0,none⟩)),eqv (.int .i64 nn),eqv (.agg #[.int .i64 nn,.slice la ln lc,.slice pa pn pc])]
structure BaseAN13 (p:GP) (nn:Int) (X:Nat) (la pa:Option Addr) (ln lc pn pc:Nat) (c:Act):Prop where
 t0:c.eval (.tmp 0)=.pointer (some ⟨p.g,0,none⟩)
 t8:c.eval (.tmp 8)=.pointer (some ⟨X,0,none⟩)
structure WorldAN13 (p:GP) (nn:Int) (X:Nat) (la pa:Option Addr) (ln lc pn pc:Nat) (w:World):Prop where
 c0:w.cell? ⟨p.g,0,none⟩=some (.map (some p.n))
 x0:w.cell? ⟨X,0,none⟩=some (.int .i64 nn)
 x1:w.cell? ⟨X,1,none⟩=some (.slice la ln lc)
 x2:w.cell? ⟨X,2,none⟩=some (.slice pa pn pc)
theorem stableAN13 (p:GP) (nn:Int) (X:Nat) (la pa:Option Addr) (ln lc pn pc:Nat):∀ pr ∈ factsAN13 p nn X la pa ln lc pn pc,Stable pr:=by
 unfold factsAN13
 iterate 8 (first | refine List.forall_mem_cons.2 ⟨eqv_stable _,?_⟩)
 exact List.forall_mem_nil _
theorem uniAN13 (p:GP) (nn:Int) (X:Nat) (la pa:Option Addr) (ln lc pn pc:Nat) (Q:Exit→Act→World→Prop):∀ i,i<8→(fun i=>i ∉ ([]:List Nat)→∀ c w,BaseAN13 p nn X la pa ln lc pn pc c→WorldAN13 p nn X la pa ln lc pn pc w→(∀ q0 ∈ ancAN13 i,factsAt (factsAN13 p nn X la pa ln lc pn pc) q0 (val RAN13 c q0) w)→Does Tryz.prog RAN13 Q (factsAt (factsAN13 p nn X la pa ln lc pn pc)) i c w) i:=by
 iterate 8 (refine below_succ ?_ (by
  intro hn c w hb hW hF
  first
  | exact absurd (by decide) hn
  | (have hEq:=factsL_of hLAN13 (by decide) hF
     refine does_told hLAN13 (by decide) rfl (fun _=>rfl) ?_
     obtain ⟨t0,t8⟩:=hb
     obtain ⟨c0,x0,x1,x2⟩:=hW
     have ec:=evc c
     have ef:=evf c
     dsimp only [ancAN13,LAN13,factsAN13,nth,FactsL,look,eqv] at hEq ⊢
     refine .inl fun pos af=>?_
     clear hF hn
     dsimp only [Sig.oper]
     generalize c.eval=ρ at *
     go_simp
     done)))
 exact below_zero
theorem allAN13 (p:GP) (nn:Int) (X:Nat) (la pa:Option Addr) (ln lc pn pc:Nat) (Q:Exit→Act→World→Prop):∀ i,i<8→(fun i=>∀ c w,BaseAN13 p nn X la pa ln lc pn pc c→WorldAN13 p nn X la pa ln lc pn pc w→(∀ q0 ∈ ancAN13 i,factsAt (factsAN13 p nn X la pa ln lc pn pc) q0 (val RAN13 c q0) w)→Does Tryz.prog RAN13 Q (factsAt (factsAN13 p nn X la pa ln lc pn pc)) i c w) i:=by
 intro i hi
 exact uniAN13 p nn X la pa ln lc pn pc Q i hi (by simp [*])
theorem regionAN13 (p:GP) (nn:Int) (X:Nat) (la pa:Option Addr) (ln lc pn pc:Nat) (Q:Exit→Act→World→Prop) (base:Act) (w0:World) (hsz:base.tmps.size=79) (hb:BaseAN13 p nn X la pa ln lc pn pc base)
  (hW:∀ w,Below w0.heap.size w0 w→WorldAN13 p nn X la pa ln lc pn pc w) (hL:∀ c w,Same RAN13 base c→Below w0.heap.size w0 w→c.eval (.tmp 64)=.map (some p.n)→c.eval (.tmp 66)=.int .i64 nn→c.eval (.tmp 67)=.agg #[.int .i64 nn,.slice la ln lc,.slice pa pn pc]→∃ w',(execOp c.eval (⟨none,.mapUpdate 68 (.tmp 64) (.tmp 66) (.tmp 67),0, "edit.go:27",#[⟨4,.data⟩,⟨6,.data⟩,⟨7,.data⟩,⟨0,.phase⟩,⟨1,.phase⟩,⟨2,.phase⟩,⟨3,.phase⟩,⟨4,.phase⟩,⟨5,.phase⟩,⟨6,.phase⟩,⟨7,.phase⟩],none⟩:Oper)).run Tryz.prog w=.ok .skip w'∧Q .normal c w'):(Code.region 13 RAN13 true).wp Tryz.prog Q base w0:=by
 have hall:(List.range 8).all (fun i=>(slotOf RAN13 i).isSome)=true:=by kernel_rfl
 refine facts_last (A:=ancAN13) (F:=factsAt (factsAN13 p nn X la pa ln lc pn pc)) 8 (by kernel_rfl) (by kernel_rfl) (by kernel_rfl) (by rw [hsz];kernel_rfl) ?_ (by decide) (fun i v w w'=>factsAt_stable (stableAN13 p nn X la pa ln lc pn pc) i v w w') ?_ ?_
 ·exact fun i hi=>Option.isSome_iff_exists.1 (List.all_eq_true.1 hall i (List.mem_range.2 hi))
 ·intro i hi c w hS hB hF
  exact allAN13 p nn X la pa ln lc pn pc Q i hi c w ⟨(same_eval hS (by kernel_rfl)).trans hb.t0,(same_eval hS (by kernel_rfl)).trans hb.t8⟩ (hW w hB) hF
 ·intro c w hS hB hF
  obtain ⟨w',h1,h2⟩:=hL c w hS hB (fact_at (p:=eqv (.map (some p.n))) (by kernel_rfl) rfl (hF 4 (by omega))) (fact_at (p:=eqv (.int .i64 nn)) (by kernel_rfl) rfl (hF 6 (by omega))) (fact_at (p:=eqv (.agg #[.int .i64 nn,.slice la ln lc,.slice pa pn pc])) (by kernel_rfl) rfl (hF 7 (by omega)))
  exact last_skip (by kernel_rfl) (want_none rfl) h1 h2
end Go.Proofs.YteddjlbfbpecjaaGreatDoor

namespace Go.Proofs.YteddjlbfbpecjaaGreatDoor
open Go.RowKit Go.Shelf
set_option maxRecDepth 10000
set_option linter.unusedVariables false
set_option linter.unusedSimpArgs false
structure Put (X:Nat) (w w':World) (cs:Array Value) (ty:TypeId):Prop where
 r:Rec w' X cs ty
 other:∀ i,i≠X→w'.heap[i]?=w.heap[i]?
 size:w'.heap.size=w.heap.size
 below:Below X w w'
theorem put_set {X:Nat} {w w':World} {cs:Array Value} {ty:TypeId} (h:Put X w w' cs ty) (i:Nat) (v:Value):Put X w (w'.setCell ⟨X,i,none⟩ v) (cs.setIfInBounds i v) ty :=
 ⟨h.r.set i v,fun j hj=>(Below.heap_setCell _ _ _ _ hj).trans (h.other j hj),by simp [World.setCell,h.size],h.below.setCell (Nat.le_refl _) _⟩
theorem put_refl {X:Nat} {w:World} {cs:Array Value} {ty:TypeId} (h:Rec w X cs ty):Put X w w cs ty:=⟨h,fun _ _=>rfl,rfl,Below.refl _ _⟩
theorem store47 (ρ:Operand→Value) (X:Nat) (w:World) (u0 u1 u2:Value) (nn:Int) (pa:Option Addr) (pn pc:Nat) (h:Rec w X #[u0,u1,u2] 47) (e8:ρ (.tmp 8)=.pointer (some ⟨X,0,none⟩)) (e40:ρ (.tmp 40)=.agg #[.int .i64 nn,.slice none 0 0,.slice pa pn pc]) :
  ∃ w',(execOp ρ (⟨none,.store 47 (.tmp 8) (.tmp 40),0, "edit.go:22",#[⟨8,.data⟩,⟨7,.data⟩,⟨6,.chain⟩,⟨0,.phase⟩,⟨1,.phase⟩,⟨2,.phase⟩,⟨3,.phase⟩,⟨4,.phase⟩,⟨5,.phase⟩,⟨6,.phase⟩,⟨7,.phase⟩,⟨8,.phase⟩],none⟩:Oper)).run Tryz.prog w=.ok .skip w'∧Put X w w' #[.int .i64 nn,.slice none 0 0,.slice pa pn pc] 47:=by
 have c0:=h.cell 0 rfl
 have c1:=h.cell 1 rfl
 have c2:=h.cell 2 rfl
 have z0:=h.z 0
 have z1:=h.z 1
 have z2:=h.z 2
 refine ⟨((w.setCell ⟨X,0,none⟩ (.int .i64 nn)).setCell ⟨X,1,none⟩ (.slice none 0 0)).setCell ⟨X,2,none⟩ (.slice pa pn pc),?_,by simpa using put_set (put_set (put_set (put_refl h) 0 (.int .i64 nn)) 1 (.slice none 0 0)) 2 (.slice pa pn pc)⟩
 clear h
 go_simp
theorem store49 (ρ:Operand→Value) (X:Nat) (w:World) (u0 u1 u2 u3 u4:Value) (nn f t:Int) (s:ByteArray) (pa:Option Addr) (pn pc:Nat) (h:Rec w X #[u0,u1,u2,u3,u4] 49) (e8:ρ (.tmp 12)=.pointer (some ⟨X,0,none⟩)) (e40:ρ (.tmp 55)=.agg #[.int .i64 nn,.int .i64 f,.int .i64 t,.string s,.slice pa pn pc]) :
  ∃ w',(execOp ρ (⟨none,.store 49 (.tmp 12) (.tmp 55),0, "edit.go:44",#[⟨11,.data⟩,⟨10,.data⟩,⟨9,.chain⟩,⟨0,.phase⟩,⟨1,.phase⟩,⟨2,.phase⟩,⟨3,.phase⟩,⟨4,.phase⟩,⟨5,.phase⟩,⟨6,.phase⟩,⟨7,.phase⟩,⟨8,.phase⟩,⟨9,.phase⟩,⟨10,.phase⟩,⟨11,.phase⟩],none⟩:Oper)).run Tryz.prog w=.ok .skip w'∧Put X w w' #[.int .i64 nn,.int .i64 f,.int .i64 t,.string s,.slice pa pn pc] 49:=by
 have c0:=h.cell 0 rfl
 have c1:=h.cell 1 rfl
 have c2:=h.cell 2 rfl
 have c3:=h.cell 3 rfl
 have c4:=h.cell 4 rfl
 have z0:=h.z 0
 have z1:=h.z 1
 have z2:=h.z 2
 have z3:=h.z 3
 have z4:=h.z 4
 refine ⟨((((w.setCell ⟨X,0,none⟩ (.int .i64 nn)).setCell ⟨X,1,none⟩ (.int .i64 f)).setCell ⟨X,2,none⟩ (.int .i64 t)).setCell ⟨X,3,none⟩ (.string s)).setCell ⟨X,4,none⟩ (.slice pa pn pc),?_,by simpa using put_set (put_set (put_set (put_set (put_set (put_refl h) 0 (.int .i64 nn)) 1 (.int .i64 f)) 2 (.int .i64 t)) 3 (.string s)) 4 (.slice pa pn pc)⟩
 clear h
 go_simp
end Go.Proofs.YteddjlbfbpecjaaGreatDoor

namespace Go.Proofs.YteddjlbfbpecjaaGreatDoor
open Go.RowKit Go.Shelf
set_option maxRecDepth 100000
set_option linter.unusedVariables false
set_option linter.unusedSimpArgs false
attribute [local go_sem] Oper.semAt_some
def TextsAt (w:World) (lo g:Nat) (a:Option Addr) (ks:List ByteArray):Prop:=ks=[]∨∃ b off,a=some ⟨b,off,none⟩∧(lo≤b∧b<g)∧∀ i x,ks[i]?=some x→w.cell? ⟨b,off+i,none⟩=some (.string x)
theorem under44  : Tryz.prog.underlying 44=some (.slice (Tryz.prog.elem 44)):=by kernel_rfl
theorem size44 (w:World):(Go.sizeOf (Tryz.prog.elem 44)).run Tryz.prog w=.ok 1 w:=by
 have e:Tryz.prog.elem 44=9:=by kernel_rfl
 rw [e];exact Tryz.sizeOf9 w
theorem tail_run {w:World} {lo g:Nat} {a:Option Addr} {x:ByteArray} {r:List ByteArray} (h:TextsAt w lo g a (x::r)) (c:Nat) (hc:r.length+1≤c) :
  ∃ a',(∀ W,(Instr.sliceAt 44 (.slice a (r.length+1) c) (some (.int .i64 1)) none none).run Tryz.prog W=.ok (.slice a' r.length (c - 1)) W)∧TextsAt w lo g a' r:=by
 obtain ⟨b,off,rfl,hb,hat⟩:=h.resolve_left (by simp)
 have hrun:∀ W,(Instr.sliceAt 44 (.slice (some ⟨b,off,none⟩) (r.length+1) c) (some (.int .i64 1)) none none).run Tryz.prog W=.ok (sliced (some ⟨b,off,none⟩) 1 (r.length+1) c 1) W:=fun W=>by
  rw [run_sliceAt_slice W 44 _ _ _ _ under44,run_slice_l W 44 (some ⟨b,off,none⟩) (r.length+1) c under44 .i64 1 (by omega) (by omega),size44]
  rfl
 by_cases hc1:c=1
 ·refine ⟨some ⟨b,off,none⟩,fun W=>?_,.inl (List.eq_nil_of_length_eq_zero (by omega))⟩
  rw [hrun W]
  simp [sliced,hc1]
 ·refine ⟨some ⟨b,off+1,none⟩,fun W=>?_,.inr ⟨b,off+1,rfl,hb,fun i y hy=>?_⟩⟩
  ·rw [hrun W]
   simp [sliced,Addr.add]
   omega
  ·have:=hat (i+1) y (by simpa using hy)
   rwa [show off+(i+1)=off+1+i by omega] at this
theorem TextsAt.set {w:World} {lo g:Nat} {a:Option Addr} {ks:List ByteArray} (h:TextsAt w lo g a ks) (v:Value):TextsAt (w.setCell ⟨g,0,none⟩ v) lo g a ks :=
 h.imp id fun ⟨b,off,e,hb,hat⟩=>⟨b,off,e,hb,fun i x hx=>(World.cell?_of_block (Below.heap_setCell _ _ _ _ (Nat.ne_of_lt hb.2))).trans (hat i x hx)⟩
theorem next_none (g:Nat) (a:Option Addr) (c:Nat) (w:World) (h:Rec w g #[.slice a 0 c] 44):Calls Tryz.prog 138 #[.pointer (some ⟨g,0,none⟩)] w fun e w'=>e=.returned (.tuple #[.string ⟨#[]⟩,.bool false])∧w'=w:=by
 have c0:=h.cell 0 rfl
 clear h
 go_enter Tryz.func138,Tryz.ntmps138
 go_wp2_with fail
 go_ret2
 exact ⟨rfl,rfl⟩
def afterB (x:ByteArray) (r:List ByteArray):List ByteArray:=r.dropWhile fun y=>y.toList==x.toList
def lenAt (w:World) (g:Nat):Nat:=match w.cell? ⟨g,0,none⟩ with | some (.slice _ n _)=>n | _=>0
theorem lenAt_of {w:World} {g:Nat} {a:Option Addr} {n c:Nat} (h:Rec w g #[.slice a n c] 44):lenAt w g=n:=by
 unfold lenAt
 have e:w.cell? ⟨g,0,none⟩=some (.slice a n c):=h.cell 0 rfl
 rw [e]
structure Rest (w:World) (lo g:Nat) (wr:World) (ks:List ByteArray):Prop where
 at_:∃ a c,Rec wr g #[.slice a ks.length c] 44∧TextsAt wr lo g a ks∧ks.length≤c∧c≤9223372036854775807
 size:wr.heap.size=w.heap.size
 other:∀ b,b≠g→wr.heap[b]?=w.heap[b]?
 below:Below g w wr
set_option maxHeartbeats 4000000 in
theorem next_some (lo g:Nat) (x:ByteArray) (r:List ByteArray) (w:World) (h:Rest w lo g w (x::r)) :
  Calls Tryz.prog 138 #[.pointer (some ⟨g,0,none⟩)] w fun e w'=>e=.returned (.tuple #[.string x,.bool true])∧Rest w lo g w' (afterB x r):=by
 have HH:=hidE h
 obtain ⟨a,c,hr,ht,h1,h2⟩:=h.at_
 obtain ⟨b,off,e1,hb,hat⟩:=ht.resolve_left (by simp)
 subst e1
 have c0:w.cell? ⟨g,0,none⟩=some (.slice (some ⟨b,off,none⟩) (r.length+1) c):=hr.cell 0 rfl
 have d0:w.cell? ⟨b,off,none⟩=some (.string x):=hat 0 x rfl
 have hl0:((r.length+1:Nat):Int)≠0:=by omega
 clear h hr ht h1 hat
 go_enter Tryz.func138,Tryz.ntmps138
 go_wp2_with fail
 go_loopw [10] (fun _ wr=>∃ ks,Rest w lo g wr ks∧ks.dropWhile (fun y=>y.toList==x.toList)=afterB x r) (fun _ wr=>lenAt wr g)
 case atStart=>exact ⟨x::r,HH.out,by simp [afterB,List.dropWhile]⟩
 case round =>
  obtain ⟨ks,hR,hdw⟩:=hrel
  have HR:=hidE hR
  have HD:=hidE hdw
  clear hdw c0 d0
  obtain ⟨a',c',hr,ht,h3,h4⟩:=hR.at_
  have HM:=hidE (lenAt_of hr)
  cases ks with
  | nil =>
   have k0:wr.cell? ⟨g,0,none⟩=some (.slice a' 0 c'):=hr.cell 0 rfl
   clear hr ht hR HM
   go_wp2_with fail
   go_ret2
   have e:afterB x r=[]:=HD.out.symm
   exact ⟨rfl,by rw [e];exact HR.out⟩
  | cons y r' =>
   obtain ⟨b2,off2,e1,hb2,hat⟩:=ht.resolve_left (by simp)
   obtain ⟨a3,hsl,ht3⟩:=tail_run ht c' h3
   subst e1
   have k0:wr.cell? ⟨g,0,none⟩=some (.slice (some ⟨b2,off2,none⟩) (r'.length+1) c'):=hr.cell 0 rfl
   have k1:wr.cell? ⟨b2,off2,none⟩=some (.string y):=hat 0 y rfl
   have z0:=hr.z 0
   have hl0:(0:Int)<((r'.length+1:Nat):Int):=by omega
   have HT3:=hidE ht3
   have HRec:=hidE hr
   simp only [List.length_cons] at HM h3
   clear hat ht3 ht hr hR
   cases hxy:(y.toList==x.toList) with
   | true =>
    go_wp2_with fail
    go_roundw
    case rel =>
     refine ⟨r',⟨⟨a3,c' - 1,HRec.out.set 0 _,HT3.out.set _,by omega,by omega⟩,?_,?_,?_⟩,?_⟩
     ·simp [HR.out.size]
     ·intro q hq
      rw [Below.heap_setCell _ _ _ _ hq];exact HR.out.other q hq
     ·exact HR.out.below.setCell (p:=⟨g,0,none⟩) (Nat.le_refl _) _
     ·have:=HD.out
      rwa [List.dropWhile_cons,if_pos hxy] at this
    case measure =>
     rw [HM.out,lenAt_of (HRec.out.set 0 _)]
     omega
   | false =>
    go_wp2_with fail
    go_ret2
    have e:afterB x r=y::r':=by
     have:=HD.out
     rw [List.dropWhile_cons,if_neg (by simp [hxy])] at this
     exact this.symm
    exact ⟨rfl,by rw [e];exact HR.out⟩
end Go.Proofs.YteddjlbfbpecjaaGreatDoor

namespace Go.Proofs.YteddjlbfbpecjaaGreatDoor
open Go.RowKit Go.Shelf
set_option linter.unusedVariables false
set_option linter.unusedSimpArgs false
attribute [local go_sem] Oper.semAt_some
set_option maxRecDepth 100000 in
theorem valuesS_any (a:Option Addr) (n c:Nat) (w:World):Calls Tryz.prog 137 #[.slice a n c] w fun e w'=>e=.returned (.func (.func 176) #[] #[.pointer (some ⟨w.heap.size,0,none⟩)])∧w'=w.alloc (.cells #[.slice a n c] 44):=by
 go_enter Tryz.func137,Tryz.ntmps137
 go_wp2_with fail
 go_ret
 exact ⟨rfl,rfl⟩
end Go.Proofs.YteddjlbfbpecjaaGreatDoor

