/- Statements of AddRel and attach, in whatever order their operations are done. -/
import Derived.Test.YteddjlbfbpecjaaGreatDoorJoin2
import Derived.Test.YteddjlbfbpecjaaGreatDoorGed15
import Derived.Maps.AppendAt
namespace Go.Proofs.YteddjlbfbpecjaaGreatDoor
open Go.RowKit Go.Shelf Go.WideShapes
set_option maxHeartbeats 4000000
set_option maxRecDepth 100000
set_option linter.unusedVariables false
set_option linter.unusedSimpArgs false
theorem Tryz.info2  : (Tryz.prog.info? 2).map (fun i=>(i.zero,i.size,i.bytes))=some (some (.int .i64 0),1,8):=by kernel_rfl
theorem exec_append {P:Program} {w w':World} {ρ:Operand→Value} {x y:Operand} {t ty:TypeId} {d:Option Tmp} {pos:String} {af:Array Edge} {g:Option (Nat × Bool)} {vx vy v':Value} (hx:ρ x=vx) (hy:ρ y=vy)
  (h:(Builtin.append_ #[t,t] ty #[vx,vy]).run P w=.ok v' w') :
  (execOp ρ { dst:=d,op:=Op.call { callee:=Callee.builtin Builtin.append,args:=#[x,y],argTypes:=#[t,t] },type:=ty,pos:=pos,after:=af,guard:=g }).run P w=.ok (.value v') w':=by
 unfold execOp
 simp only [resolve,invoke,builtin,Sem.run_bind,Sem.run_pure,Result.andThen_ok,List.map_toArray,List.map_cons,List.map_nil,hx,hy,h]
noncomputable def RAR9  : Array Oper:=regionAt Tryz.f32 9
def LAR9  : List Sig:=[⟨45,.move (.tmp 0),31,none⟩,⟨46,.nilCheck (.tmp 45),0,none⟩,⟨47,.fieldAddr 74 (.tmp 46) 0,0,none⟩,⟨48,.fieldAddr 71 (.tmp 47) 3,0,none⟩,⟨49,.load 2 (.tmp 48),2,none⟩,⟨50,.move (.tmp 1),2,none⟩,⟨51,.move (.tmp 2),2,none⟩,⟨52,.move (.tmp 3),9,none⟩,⟨53,.move (.tmp 4),45,none⟩,⟨54,.call { callee:=.value (.func 88),args:=#[.tmp 53],argTypes:=#[45] },45,none⟩,⟨55,.build 49 #[(0,.tmp 49),(1,.tmp 50),(2,.tmp 51),(3,.tmp 52),(4,.tmp 54)],49,none⟩,⟨12,.alloc 49,0,none⟩]
theorem hLAR9  : (sigsOf RAR9).take LAR9.length=LAR9.map some:=by kernel_rfl
def ancAR9 (i:Nat):List Nat:=nth [] [[],[0],[1],[2],[3],[],[],[],[],[8],[4,5,6,7,9],[],[0,1,2,3,4,5,6,7,8,9,10,11]] i
def factsAR9 (p:GP) (nr f t:Int) (s:ByteArray) (pv:Value) (B0:Nat) (K:World→Value→Prop):List (Value→World→Prop) :=
 [eqv (.pointer (some ⟨p.g,0,none⟩)),eqv (.pointer (some ⟨p.g,0,none⟩)),eqv (.pointer (some ⟨p.g,0,none⟩)),eqv (.pointer (some ⟨p.g,3,none⟩)),eqv (.int .i64 nr),eqv (.int .i64 f),eqv (.int .i64 t),eqv (.string s),eqv (pv),fun v w=>∃ a n c,v=.slice a n c∧KB K w v,fun v w=>∃ a n c,v=.agg #[.int .i64 nr,.int .i64 f,.int .i64 t,.string s,.slice a n c]∧KB K w (.slice a n c),fun v w=>∃ X,v=.pointer (some ⟨X,0,none⟩)∧B0≤X∧Rec w X #[.int .i64 0,.int .i64 0,.int .i64 0,.string ⟨#[]⟩,.slice none 0 0] 49]
structure BaseAR9 (p:GP) (nr f t:Int) (s:ByteArray) (pv:Value) (B0:Nat) (K:World→Value→Prop) (c:Act):Prop where
 t0:c.eval (.tmp 0)=.pointer (some ⟨p.g,0,none⟩)
 t1:c.eval (.tmp 1)=.int .i64 f
 t2:c.eval (.tmp 2)=.int .i64 t
 t3:c.eval (.tmp 3)=.string s
 t4:c.eval (.tmp 4)=pv
structure WorldAR9 (p:GP) (nr f t:Int) (s:ByteArray) (pv:Value) (B0:Nat) (K:World→Value→Prop) (w:World):Prop where
 c3:w.cell? ⟨p.g,3,none⟩=some (.int .i64 nr)
 b0:B0≤w.heap.size
 k6:Calls Tryz.prog 88 #[pv] w fun e w'=>∃ a n c,e=.returned (.slice a n c)∧K w' (.slice a n c)∧Below w.heap.size w w'
theorem oAR9_9 (p:GP) (nr f t:Int) (s:ByteArray) (pv:Value) (B0:Nat) (K:World→Value→Prop) (Q:Exit→Act→World→Prop) (c:Act) (w:World) (hb:BaseAR9 p nr f t s pv B0 K c) (hW:WorldAR9 p nr f t s pv B0 K w) (hF:∀ q0 ∈ ancAR9 9,factsAt (factsAR9 p nr f t s pv B0 K) q0 (val RAR9 c q0) w) :
  Does Tryz.prog RAR9 Q (factsAt (factsAR9 p nr f t s pv B0 K)) 9 c w:=by
 have ho:RAR9[9]?=some (⟨some 54,.call { callee:=.value (.func 88),args:=#[.tmp 53],argTypes:=#[45] },45, "edit.go:44",#[⟨8,.data⟩],none⟩:Oper):=by kernel_rfl
 have e53:c.eval (.tmp 53)=pv:=fact_eq (by kernel_rfl) rfl (hF 8 (by decide))
 have hw:Region.wanted (⟨some 54,.call { callee:=.value (.func 88),args:=#[.tmp 53],argTypes:=#[45] },45, "edit.go:44",#[⟨8,.data⟩],none⟩:Oper) (yielded RAR9 c.tmps)=true:=want_none rfl
 have ec:=evc c
 have ef:=evf c
 refine does_call ho hw (f:=88) (args:=#[pv]) ?_ (hW.k6.mono fun e w' ⟨a,n,c,h1,h2,h3⟩=>⟨_,h1,⟨a,n,c,rfl,w',h2,Below.refl _ _⟩,h3⟩)
 generalize c.eval=ρ at *
 clear hF hb hW hw ho
 go_simp
theorem oAR9_10 (p:GP) (nr f t:Int) (s:ByteArray) (pv:Value) (B0:Nat) (K:World→Value→Prop) (Q:Exit→Act→World→Prop) (c:Act) (w:World) (hb:BaseAR9 p nr f t s pv B0 K c) (hW:WorldAR9 p nr f t s pv B0 K w) (hF:∀ q0 ∈ ancAR9 10,factsAt (factsAR9 p nr f t s pv B0 K) q0 (val RAR9 c q0) w) :
  Does Tryz.prog RAR9 Q (factsAt (factsAR9 p nr f t s pv B0 K)) 10 c w:=by
 have ho:RAR9[10]?=some (⟨some 55,.build 49 #[(0,.tmp 49),(1,.tmp 50),(2,.tmp 51),(3,.tmp 52),(4,.tmp 54)],49, "edit.go:44",#[⟨4,.data⟩,⟨5,.data⟩,⟨6,.data⟩,⟨7,.data⟩,⟨9,.data⟩],none⟩:Oper):=by kernel_rfl
 have e49:c.eval (.tmp 49)=.int .i64 nr:=fact_eq (by kernel_rfl) rfl (hF 4 (by decide))
 have e50:c.eval (.tmp 50)=.int .i64 f:=fact_eq (by kernel_rfl) rfl (hF 5 (by decide))
 have e51:c.eval (.tmp 51)=.int .i64 t:=fact_eq (by kernel_rfl) rfl (hF 6 (by decide))
 have e52:c.eval (.tmp 52)=.string s:=fact_eq (by kernel_rfl) rfl (hF 7 (by decide))
 have f54:(fun v w=>∃ a n c,v=.slice a n c∧KB K w v) (c.eval (.tmp 54)) w:=fact_at (by kernel_rfl) rfl (hF 9 (by decide))
 have hw:Region.wanted (⟨some 55,.build 49 #[(0,.tmp 49),(1,.tmp 50),(2,.tmp 51),(3,.tmp 52),(4,.tmp 54)],49, "edit.go:44",#[⟨4,.data⟩,⟨5,.data⟩,⟨6,.data⟩,⟨7,.data⟩,⟨9,.data⟩],none⟩:Oper) (yielded RAR9 c.tmps)=true:=want_none rfl
 have ec:=evc c
 have ef:=evf c
 obtain ⟨a,n,cc,e54,hk⟩:=f54
 rw [e54] at hk
 refine does_value ho hw (v:=.agg #[.int .i64 nr,.int .i64 f,.int .i64 t,.string s,.slice a n cc]) ?_ ⟨a,n,cc,rfl,hk⟩ (Below.refl _ _)
 generalize c.eval=ρ at *
 clear hF hb hW hw ho
 go_simp
theorem oAR9_11 (p:GP) (nr f t:Int) (s:ByteArray) (pv:Value) (B0:Nat) (K:World→Value→Prop) (Q:Exit→Act→World→Prop) (c:Act) (w:World) (hb:BaseAR9 p nr f t s pv B0 K c) (hW:WorldAR9 p nr f t s pv B0 K w) (hF:∀ q0 ∈ ancAR9 11,factsAt (factsAR9 p nr f t s pv B0 K) q0 (val RAR9 c q0) w) :
  Does Tryz.prog RAR9 Q (factsAt (factsAR9 p nr f t s pv B0 K)) 11 c w:=by
 have ho:RAR9[11]?=some (⟨some 12,.alloc 49,0, "edit.go:44",#[],none⟩:Oper):=by kernel_rfl
 have hw:Region.wanted (⟨some 12,.alloc 49,0, "edit.go:44",#[],none⟩:Oper) (yielded RAR9 c.tmps)=true:=want_none rfl
 have ec:=evc c
 have ef:=evf c
 refine does_value ho hw (v:=.pointer (some ⟨w.heap.size,0,none⟩)) (w':=w.alloc (.cells #[.int .i64 0,.int .i64 0,.int .i64 0,.string ⟨#[]⟩,.slice none 0 0] 49)) ?_ ⟨w.heap.size,rfl,hW.b0,rec_new _ _ _⟩ ((Below.refl _ _).alloc (Nat.le_refl _) _)
 generalize c.eval=ρ at *
 clear hF hb hW hw ho
 go_simp
theorem stableAR9 (p:GP) (nr f t:Int) (s:ByteArray) (pv:Value) (B0:Nat) (K:World→Value→Prop):∀ pr ∈ factsAR9 p nr f t s pv B0 K,Stable pr:=by
 unfold factsAR9
 iterate 12 (first | refine List.forall_mem_cons.2 ⟨eqv_stable _,?_⟩ | refine List.forall_mem_cons.2 ⟨fun v w w' ⟨a,n,c,h,hk⟩ hb=>⟨a,n,c,h,hk.grow hb⟩,?_⟩ | refine List.forall_mem_cons.2 ⟨fun v w w' ⟨a,n,c,h,hk⟩ hb=>⟨a,n,c,h,hk.grow hb⟩,?_⟩ | refine List.forall_mem_cons.2 ⟨fun v w w' ⟨X,h,hX,hr⟩ hb=>⟨X,h,hX,hr.below hb hr.lt⟩,?_⟩)
 exact List.forall_mem_nil _
theorem uniAR9 (p:GP) (nr f t:Int) (s:ByteArray) (pv:Value) (B0:Nat) (K:World→Value→Prop) (Q:Exit→Act→World→Prop):∀ i,i<12→(fun i=>i ∉ ([9,10,11]:List Nat)→∀ c w,BaseAR9 p nr f t s pv B0 K c→WorldAR9 p nr f t s pv B0 K w→(∀ q0 ∈ ancAR9 i,factsAt (factsAR9 p nr f t s pv B0 K) q0 (val RAR9 c q0) w)→Does Tryz.prog RAR9 Q (factsAt (factsAR9 p nr f t s pv B0 K)) i c w) i:=by
 iterate 12 (refine below_succ ?_ (by
  intro hn c w hb hW hF
  first
  | exact absurd (by decide) hn
  | (have hEq:=factsL_of hLAR9 (by decide) hF
     refine does_told hLAR9 (by decide) rfl (fun _=>rfl) ?_
     obtain ⟨t0,t1,t2,t3,t4⟩:=hb
     obtain ⟨c3,b0,k6⟩:=hW
     have ec:=evc c
     have ef:=evf c
     dsimp only [ancAR9,LAR9,factsAR9,nth,FactsL,look,eqv] at hEq ⊢
     refine .inl fun pos af=>?_
     clear hF hn k6
     dsimp only [Sig.oper]
     generalize c.eval=ρ at *
     go_simp
     done)))
 exact below_zero
theorem allAR9 (p:GP) (nr f t:Int) (s:ByteArray) (pv:Value) (B0:Nat) (K:World→Value→Prop) (Q:Exit→Act→World→Prop):∀ i,i<12→(fun i=>∀ c w,BaseAR9 p nr f t s pv B0 K c→WorldAR9 p nr f t s pv B0 K w→(∀ q0 ∈ ancAR9 i,factsAt (factsAR9 p nr f t s pv B0 K) q0 (val RAR9 c q0) w)→Does Tryz.prog RAR9 Q (factsAt (factsAR9 p nr f t s pv B0 K)) i c w) i:=by
 intro i hi
 by_cases h9:i=9
 ·subst h9;exact fun c w=>oAR9_9 p nr f t s pv B0 K Q c w
 by_cases h10:i=10
 ·subst h10;exact fun c w=>oAR9_10 p nr f t s pv B0 K Q c w
 by_cases h11:i=11
 ·subst h11;exact fun c w=>oAR9_11 p nr f t s pv B0 K Q c w
 exact uniAR9 p nr f t s pv B0 K Q i hi (by simp [*])
theorem regionAR9 (p:GP) (nr f t:Int) (s:ByteArray) (pv:Value) (B0:Nat) (K:World→Value→Prop) (Q:Exit→Act→World→Prop) (base:Act) (w0:World) (hsz:base.tmps.size=78) (hb:BaseAR9 p nr f t s pv B0 K base)
  (hW:∀ w,Below w0.heap.size w0 w→WorldAR9 p nr f t s pv B0 K w) (hL:∀ c w,Same RAR9 base c→Below w0.heap.size w0 w→(fun v w=>∃ a n c,v=.agg #[.int .i64 nr,.int .i64 f,.int .i64 t,.string s,.slice a n c]∧KB K w (.slice a n c)) (c.eval (.tmp 55)) w→(fun v w=>∃ X,v=.pointer (some ⟨X,0,none⟩)∧B0≤X∧Rec w X #[.int .i64 0,.int .i64 0,.int .i64 0,.string ⟨#[]⟩,.slice none 0 0] 49) (c.eval (.tmp 12)) w→∃ w',(execOp c.eval (⟨none,.store 49 (.tmp 12) (.tmp 55),0, "edit.go:44",#[⟨11,.data⟩,⟨10,.data⟩,⟨9,.chain⟩,⟨0,.phase⟩,⟨1,.phase⟩,⟨2,.phase⟩,⟨3,.phase⟩,⟨4,.phase⟩,⟨5,.phase⟩,⟨6,.phase⟩,⟨7,.phase⟩,⟨8,.phase⟩,⟨9,.phase⟩,⟨10,.phase⟩,⟨11,.phase⟩],none⟩:Oper)).run Tryz.prog w=.ok .skip w'∧Q .normal c w'):(Code.region 9 RAR9 true).wp Tryz.prog Q base w0:=by
 have hall:(List.range 12).all (fun i=>(slotOf RAR9 i).isSome)=true:=by kernel_rfl
 refine facts_last (A:=ancAR9) (F:=factsAt (factsAR9 p nr f t s pv B0 K)) 12 (by kernel_rfl) (by kernel_rfl) (by kernel_rfl) (by rw [hsz];kernel_rfl) ?_ (by decide) (fun i v w w'=>factsAt_stable (stableAR9 p nr f t s pv B0 K) i v w w') ?_ ?_
 ·exact fun i hi=>Option.isSome_iff_exists.1 (List.all_eq_true.1 hall i (List.mem_range.2 hi))
 ·intro i hi c w hS hB hF
  exact allAR9 p nr f t s pv B0 K Q i hi c w ⟨(same_eval hS (by kernel_rfl)).trans hb.t0,(same_eval hS (by kernel_rfl)).trans hb.t1,(same_eval hS (by kernel_rfl)).trans hb.t2,(same_eval hS (by kernel_rfl)).trans hb.t3,(same_eval hS (by kernel_rfl)).trans hb.t4⟩ (hW w hB) hF
 ·intro c w hS hB hF
  obtain ⟨w',h1,h2⟩:=hL c w hS hB (fact_at (p:=fun v w=>∃ a n c,v=.agg #[.int .i64 nr,.int .i64 f,.int .i64 t,.string s,.slice a n c]∧KB K w (.slice a n c)) (by kernel_rfl) rfl (hF 10 (by omega))) (fact_at (p:=fun v w=>∃ X,v=.pointer (some ⟨X,0,none⟩)∧B0≤X∧Rec w X #[.int .i64 0,.int .i64 0,.int .i64 0,.string ⟨#[]⟩,.slice none 0 0] 49) (by kernel_rfl) rfl (hF 11 (by omega)))
  exact last_skip (by kernel_rfl) (want_none rfl) h1 h2
noncomputable def RAR10  : Array Oper:=regionAt Tryz.f32 10
def LAR10  : List Sig:=[⟨56,.move (.tmp 0),31,none⟩,⟨57,.nilCheck (.tmp 56),0,none⟩,⟨58,.fieldAddr 74 (.tmp 57) 0,0,none⟩,⟨59,.fieldAddr 71 (.tmp 58) 1,0,none⟩,⟨60,.load 69 (.tmp 59),69,none⟩,⟨61,.fieldAddr 49 (.tmp 12) 0,0,none⟩,⟨62,.load 2 (.tmp 61),2,none⟩,⟨63,.load 49 (.tmp 12),49,none⟩]
theorem hLAR10  : (sigsOf RAR10).take LAR10.length=LAR10.map some:=by kernel_rfl
def ancAR10 (i:Nat):List Nat:=nth [] [[],[0],[1],[2],[3],[],[5],[],[0,1,2,3,4,5,6,7]] i
def factsAR10 (p:GP) (nr f t:Int) (s:ByteArray) (X:Nat) (pa:Option Addr) (pn pc:Nat):List (Value→World→Prop) :=
 [eqv (.pointer (some ⟨p.g,0,none⟩)),eqv (.pointer (some ⟨p.g,0,none⟩)),eqv (.pointer (some ⟨p.g,0,none⟩)),eqv (.pointer (some ⟨p.g,1,none⟩)),eqv (.map (some p.r)),eqv (.pointer (some ⟨X,0,none⟩)),eqv (.int .i64 nr),eqv (.agg #[.int .i64 nr,.int .i64 f,.int .i64 t,.string s,.slice pa pn pc])]
structure BaseAR10 (p:GP) (nr f t:Int) (s:ByteArray) (X:Nat) (pa:Option Addr) (pn pc:Nat) (c:Act):Prop where
 t0:c.eval (.tmp 0)=.pointer (some ⟨p.g,0,none⟩)
 t12:c.eval (.tmp 12)=.pointer (some ⟨X,0,none⟩)
structure WorldAR10 (p:GP) (nr f t:Int) (s:ByteArray) (X:Nat) (pa:Option Addr) (pn pc:Nat) (w:World):Prop where
 c1:w.cell? ⟨p.g,1,none⟩=some (.map (some p.r))
 x0:w.cell? ⟨X,0,none⟩=some (.int .i64 nr)
 x1:w.cell? ⟨X,1,none⟩=some (.int .i64 f)
 x2:w.cell? ⟨X,2,none⟩=some (.int .i64 t)
 x3:w.cell? ⟨X,3,none⟩=some (.string s)
 x4:w.cell? ⟨X,4,none⟩=some (.slice pa pn pc)
theorem stableAR10 (p:GP) (nr f t:Int) (s:ByteArray) (X:Nat) (pa:Option Addr) (pn pc:Nat):∀ pr ∈ factsAR10 p nr f t s X pa pn pc,Stable pr:=by
 unfold factsAR10
 iterate 8 (first | refine List.forall_mem_cons.2 ⟨eqv_stable _,?_⟩)
 exact List.forall_mem_nil _
theorem uniAR10 (p:GP) (nr f t:Int) (s:ByteArray) (X:Nat) (pa:Option Addr) (pn pc:Nat) (Q:Exit→Act→World→Prop):∀ i,i<8→(fun i=>i ∉ ([]:List Nat)→∀ c w,BaseAR10 p nr f t s X pa pn pc c→WorldAR10 p nr f t s X pa pn pc w→(∀ q0 ∈ ancAR10 i,factsAt (factsAR10 p nr f t s X pa pn pc) q0 (val RAR10 c q0) w)→Does Tryz.prog RAR10 Q (factsAt (factsAR10 p nr f t s X pa pn pc)) i c w) i:=by
 iterate 8 (refine below_succ ?_ (by
  intro hn c w hb hW hF
  first
  | exact absurd (by decide) hn
  | (have hEq:=factsL_of hLAR10 (by decide) hF
     refine does_told hLAR10 (by decide) rfl (fun _=>rfl) ?_
     obtain ⟨t0,t12⟩:=hb
     obtain ⟨c1,x0,x1,x2,x3,x4⟩:=hW
     have ec:=evc c
     have ef:=evf c
     dsimp only [ancAR10,LAR10,factsAR10,nth,FactsL,look,eqv] at hEq ⊢
     refine .inl fun pos af=>?_
     clear hF hn
     dsimp only [Sig.oper]
     generalize c.eval=ρ at *
     go_simp
     done)))
 exact below_zero
theorem allAR10 (p:GP) (nr f t:Int) (s:ByteArray) (X:Nat) (pa:Option Addr) (pn pc:Nat) (Q:Exit→Act→World→Prop):∀ i,i<8→(fun i=>∀ c w,BaseAR10 p nr f t s X pa pn pc c→WorldAR10 p nr f t s X pa pn pc w→(∀ q0 ∈ ancAR10 i,factsAt (factsAR10 p nr f t s X pa pn pc) q0 (val RAR10 c q0) w)→Does Tryz.prog RAR10 Q (factsAt (factsAR10 p nr f t s X pa pn pc)) i c w) i:=by
 intro i hi
 exact uniAR10 p nr f t s X pa pn pc Q i hi (by simp [*])
theorem regionAR10 (p:GP) (nr f t:Int) (s:ByteArray) (X:Nat) (pa:Option Addr) (pn pc:Nat) (Q:Exit→Act→World→Prop) (base:Act) (w0:World) (hsz:base.tmps.size=78) (hb:BaseAR10 p nr f t s X pa pn pc base)
  (hW:∀ w,Below w0.heap.size w0 w→WorldAR10 p nr f t s X pa pn pc w) (hL:∀ c w,Same RAR10 base c→Below w0.heap.size w0 w→c.eval (.tmp 60)=.map (some p.r)→c.eval (.tmp 62)=.int .i64 nr→c.eval (.tmp 63)=.agg #[.int .i64 nr,.int .i64 f,.int .i64 t,.string s,.slice pa pn pc]→∃ w',(execOp c.eval (⟨none,.mapUpdate 69 (.tmp 60) (.tmp 62) (.tmp 63),0, "edit.go:45",#[⟨4,.data⟩,⟨6,.data⟩,⟨7,.data⟩,⟨0,.phase⟩,⟨1,.phase⟩,⟨2,.phase⟩,⟨3,.phase⟩,⟨4,.phase⟩,⟨5,.phase⟩,⟨6,.phase⟩,⟨7,.phase⟩],none⟩:Oper)).run Tryz.prog w=.ok .skip w'∧Q .normal c w'):(Code.region 10 RAR10 true).wp Tryz.prog Q base w0:=by
 have hall:(List.range 8).all (fun i=>(slotOf RAR10 i).isSome)=true:=by kernel_rfl
 refine facts_last (A:=ancAR10) (F:=factsAt (factsAR10 p nr f t s X pa pn pc)) 8 (by kernel_rfl) (by kernel_rfl) (by kernel_rfl) (by rw [hsz];kernel_rfl) ?_ (by decide) (fun i v w w'=>factsAt_stable (stableAR10 p nr f t s X pa pn pc) i v w w') ?_ ?_
 ·exact fun i hi=>Option.isSome_iff_exists.1 (List.all_eq_true.1 hall i (List.mem_range.2 hi))
 ·intro i hi c w hS hB hF
  exact allAR10 p nr f t s X pa pn pc Q i hi c w ⟨(same_eval hS (by kernel_rfl)).trans hb.t0,(same_eval hS (by kernel_rfl)).trans hb.t12⟩ (hW w hB) hF
 ·intro c w hS hB hF
  obtain ⟨w',h1,h2⟩:=hL c w hS hB (fact_at (p:=eqv (.map (some p.r))) (by kernel_rfl) rfl (hF 4 (by omega))) (fact_at (p:=eqv (.int .i64 nr)) (by kernel_rfl) rfl (hF 6 (by omega))) (fact_at (p:=eqv (.agg #[.int .i64 nr,.int .i64 f,.int .i64 t,.string s,.slice pa pn pc])) (by kernel_rfl) rfl (hF 7 (by omega)))
  exact last_skip (by kernel_rfl) (want_none rfl) h1 h2
noncomputable def RAT1  : Array Oper:=regionAt Tryz.f40 1
def LAT1  : List Sig:=[⟨4,.move (.tmp 0),31,none⟩,⟨5,.nilCheck (.tmp 4),0,none⟩,⟨6,.fieldAddr 74 (.tmp 5) 1,0,none⟩,⟨7,.load 72 (.tmp 6),72,none⟩,⟨8,.fieldAddr 49 (.tmp 3) 1,0,none⟩,⟨9,.load 2 (.tmp 8),2,none⟩,⟨10,.move (.tmp 0),31,none⟩,⟨11,.nilCheck (.tmp 10),0,none⟩,⟨12,.fieldAddr 74 (.tmp 11) 1,0,none⟩,⟨13,.load 72 (.tmp 12),72,none⟩,⟨14,.fieldAddr 49 (.tmp 3) 1,0,none⟩,⟨15,.load 2 (.tmp 14),2,none⟩,⟨16,.lookup 72 (.tmp 13) (.tmp 15) false,100,none⟩,⟨17,.fieldAddr 49 (.tmp 3) 0,0,none⟩,⟨18,.load 2 (.tmp 17),2,none⟩,⟨19,.buildSlice 100 1 #[(0,.tmp 18)],100,none⟩,⟨20,.call { callee:=.builtin .append,args:=#[.tmp 16,.tmp 19],argTypes:=#[100,100] },100,none⟩]
theorem hLAT1  : (sigsOf RAT1).take LAT1.length=LAT1.map some:=by kernel_rfl
def ancAT1 (i:Nat):List Nat:=nth [] [[],[0],[1],[2],[],[4],[],[6],[7],[8],[],[10],[9,11],[],[13],[14],[12,15],[0,1,2,3,4,5,6,7,8,9,10,11,12,13,14,15,16]] i
def factsAT1 (p:GP) (id k:Int) (X B0:Nat):List (Value→World→Prop) :=
 [eqv (.pointer (some ⟨p.g,0,none⟩)),eqv (.pointer (some ⟨p.g,0,none⟩)),eqv (.pointer (some ⟨p.g,4,none⟩)),eqv (.map (some p.f)),eqv (.pointer (some ⟨X,1,none⟩)),eqv (.int .i64 k),eqv (.pointer (some ⟨p.g,0,none⟩)),eqv (.pointer (some ⟨p.g,0,none⟩)),eqv (.pointer (some ⟨p.g,4,none⟩)),eqv (.map (some p.f)),eqv (.pointer (some ⟨X,1,none⟩)),eqv (.int .i64 k),eqv (.slice none 0 0),eqv (.pointer (some ⟨X,0,none⟩)),eqv (.int .i64 id),laid [id],fun v w=>w.ownsRow B0 2 1 v 1 [.int .i64 id]∧∃ a c,v=.slice a 1 c]
structure BaseAT1 (p:GP) (id k:Int) (X B0:Nat) (c:Act):Prop where
 t0:c.eval (.tmp 0)=.pointer (some ⟨p.g,0,none⟩)
 t3:c.eval (.tmp 3)=.pointer (some ⟨X,0,none⟩)
structure WorldAT1 (p:GP) (id k:Int) (X B0:Nat) (w:World):Prop where
 cm:w.cell? ⟨p.g,4,none⟩=some (.map (some p.f))
 xk:w.cell? ⟨X,1,none⟩=some (.int .i64 k)
 xi:w.cell? ⟨X,0,none⟩=some (.int .i64 id)
 lk:(Instr.lookup 72 (.map (some p.f)) (.int .i64 k) false).run Tryz.prog w=.ok (.slice none 0 0) w
 b0:B0≤w.heap.size
theorem oAT1_15 (p:GP) (id k:Int) (X B0:Nat) (Q:Exit→Act→World→Prop) (c:Act) (w:World) (hb:BaseAT1 p id k X B0 c) (hW:WorldAT1 p id k X B0 w) (hF:∀ q0 ∈ ancAT1 15,factsAt (factsAT1 p id k X B0) q0 (val RAT1 c q0) w) :
  Does Tryz.prog RAT1 Q (factsAt (factsAT1 p id k X B0)) 15 c w:=by
 have ho:RAT1[15]?=some (⟨some 19,.buildSlice 100 1 #[(0,.tmp 18)],100, "edit.go:126",#[⟨14,.data⟩],none⟩:Oper):=by kernel_rfl
 have e18:c.eval (.tmp 18)=.int .i64 id:=fact_eq (by kernel_rfl) rfl (hF 14 (by decide))
 have hw:Region.wanted (⟨some 19,.buildSlice 100 1 #[(0,.tmp 18)],100, "edit.go:126",#[⟨14,.data⟩],none⟩:Oper) (yielded RAT1 c.tmps)=true:=want_none rfl
 have ec:=evc c
 have ef:=evf c
 refine does_value ho hw (v:=.slice (some ⟨w.heap.size,0,none⟩) 1 1) (w':=w.alloc (.cells #[.int .i64 id] 2)) ?_ ⟨w.heap.size,rfl,by simp,fun j hj=>?_⟩ ((Below.refl _ _).alloc (Nat.le_refl _) _)
 ·generalize c.eval=ρ at *
  clear hF hb hW hw ho
  go_simp
 ·have hj0:j=0:=by simp at hj;omega
  subst hj0
  exact cell_new _ _ _ _ _ rfl
theorem oAT1_16 (p:GP) (id k:Int) (X B0:Nat) (Q:Exit→Act→World→Prop) (c:Act) (w:World) (hb:BaseAT1 p id k X B0 c) (hW:WorldAT1 p id k X B0 w) (hF:∀ q0 ∈ ancAT1 16,factsAt (factsAT1 p id k X B0) q0 (val RAT1 c q0) w) :
  Does Tryz.prog RAT1 Q (factsAt (factsAT1 p id k X B0)) 16 c w:=by
 have ho:RAT1[16]?=some (⟨some 20,.call { callee:=.builtin .append,args:=#[.tmp 16,.tmp 19],argTypes:=#[100,100] },100, "edit.go:126",#[⟨12,.data⟩,⟨15,.data⟩],none⟩:Oper):=by kernel_rfl
 have e16:c.eval (.tmp 16)=.slice none 0 0:=fact_eq (by kernel_rfl) rfl (hF 12 (by decide))
 have f19:(laid [id]) (c.eval (.tmp 19)) w:=fact_at (by kernel_rfl) rfl (hF 15 (by decide))
 have hw:Region.wanted (⟨some 20,.call { callee:=.builtin .append,args:=#[.tmp 16,.tmp 19],argTypes:=#[100,100] },100, "edit.go:126",#[⟨12,.data⟩,⟨15,.data⟩],none⟩:Oper) (yielded RAT1 c.tmps)=true:=want_none rfl
 have ec:=evc c
 have ef:=evf c
 obtain ⟨i0,hi,hz0,hz1,hz2⟩:=info_parts Tryz.info2
 obtain ⟨y,e19,hy,hyc⟩:=f19
 obtain ⟨v',w',hrun,hown,hgr,_,_⟩:=run_append_own_at (P:=Tryz.prog) w B0 100 100 2 i0 (.int .i64 0) 1 8 Tryz.underlying100 hi hz0 hz1 hz2 rfl (by decide) (.slice none 0 0) 0 [] (World.ownsRow_nil _ _ _ _) ⟨y,0,none⟩ 1 1 [.int .i64 id] rfl (fun j u hj=>by
  have hj0:j=0:=by
   have:=(List.getElem?_eq_some_iff.1 hj).1
   simp at this;omega
  subst hj0
  have:u=.int .i64 id:=by simpa using hj.symm
  subst this
  have hadd:(⟨y,0,none⟩:Addr).add 0=⟨y,0,none⟩:=by unfold Addr.add;split<;>simp_all
  rw [hadd]
  exact hyc 0 (by simp)) (by intro u hu;simp only [List.mem_cons,List.not_mem_nil,or_false] at hu;subst hu;rfl) (by unfold maxLen;omega) (by omega) hW.b0
 obtain ⟨ua,uc,rfl⟩:=row_slice hown
 refine does_value ho hw (v:=.slice ua (0+1) uc) (w':=w') ?_ ⟨hown,ua,uc,rfl⟩ ((Below.refl _ w).grown hgr (Nat.le_refl _) (fun q h=>by cases h))
 exact exec_append e16 e19 hrun
theorem stableAT1 (p:GP) (id k:Int) (X B0:Nat):∀ pr ∈ factsAT1 p id k X B0,Stable pr:=by
 unfold factsAT1
 iterate 17 (first | refine List.forall_mem_cons.2 ⟨eqv_stable _,?_⟩ | refine List.forall_mem_cons.2 ⟨laid_stable _,?_⟩ | refine List.forall_mem_cons.2 ⟨fun v w w' ⟨h,h2⟩ hb=>⟨row_keep h fun g _ hg=>hb.block g hg,h2⟩,?_⟩)
 exact List.forall_mem_nil _
theorem uniAT1 (p:GP) (id k:Int) (X B0:Nat) (Q:Exit→Act→World→Prop):∀ i,i<17→(fun i=>i ∉ ([15,16]:List Nat)→∀ c w,BaseAT1 p id k X B0 c→WorldAT1 p id k X B0 w→(∀ q0 ∈ ancAT1 i,factsAt (factsAT1 p id k X B0) q0 (val RAT1 c q0) w)→Does Tryz.prog RAT1 Q (factsAt (factsAT1 p id k X B0)) i c w) i:=by
 iterate 17 (refine below_succ ?_ (by
  intro hn c w hb hW hF
  first
  | exact absurd (by decide) hn
  | (have hEq:=factsL_of hLAT1 (by decide) hF
     refine does_told hLAT1 (by decide) rfl (fun _=>rfl) ?_
     obtain ⟨t0,t3⟩:=hb
     obtain ⟨cm,xk,xi,lk,b0⟩:=hW
     have ec:=evc c
     have ef:=evf c
     dsimp only [ancAT1,LAT1,factsAT1,nth,FactsL,look,eqv] at hEq ⊢
     refine .inl fun pos af=>?_
     clear hF hn
     dsimp only [Sig.oper]
     generalize c.eval=ρ at *
     go_simp
     done)))
 exact below_zero
theorem allAT1 (p:GP) (id k:Int) (X B0:Nat) (Q:Exit→Act→World→Prop):∀ i,i<17→(fun i=>∀ c w,BaseAT1 p id k X B0 c→WorldAT1 p id k X B0 w→(∀ q0 ∈ ancAT1 i,factsAt (factsAT1 p id k X B0) q0 (val RAT1 c q0) w)→Does Tryz.prog RAT1 Q (factsAt (factsAT1 p id k X B0)) i c w) i:=by
 intro i hi
 by_cases h15:i=15
 ·subst h15;exact fun c w=>oAT1_15 p id k X B0 Q c w
 by_cases h16:i=16
 ·subst h16;exact fun c w=>oAT1_16 p id k X B0 Q c w
 exact uniAT1 p id k X B0 Q i hi (by simp [*])
theorem regionAT1 (p:GP) (id k:Int) (X B0:Nat) (Q:Exit→Act→World→Prop) (base:Act) (w0:World) (hsz:base.tmps.size=38) (hb:BaseAT1 p id k X B0 base)
  (hW:∀ w,Below w0.heap.size w0 w→WorldAT1 p id k X B0 w) (hL:∀ c w,Same RAT1 base c→Below w0.heap.size w0 w→c.eval (.tmp 7)=.map (some p.f)→c.eval (.tmp 9)=.int .i64 k→(fun v w=>w.ownsRow B0 2 1 v 1 [.int .i64 id]∧∃ a c,v=.slice a 1 c) (c.eval (.tmp 20)) w→∃ w',(execOp c.eval (⟨none,.mapUpdate 72 (.tmp 7) (.tmp 9) (.tmp 20),0, "edit.go:126",#[⟨3,.data⟩,⟨5,.data⟩,⟨16,.data⟩,⟨16,.chain⟩,⟨0,.phase⟩,⟨1,.phase⟩,⟨2,.phase⟩,⟨3,.phase⟩,⟨4,.phase⟩,⟨5,.phase⟩,⟨6,.phase⟩,⟨7,.phase⟩,⟨8,.phase⟩,⟨9,.phase⟩,⟨10,.phase⟩,⟨11,.phase⟩,⟨12,.phase⟩,⟨13,.phase⟩,⟨14,.phase⟩,⟨15,.phase⟩,⟨16,.phase⟩],none⟩:Oper)).run Tryz.prog w=.ok .skip w'∧Q .normal c w'):(Code.region 1 RAT1 true).wp Tryz.prog Q base w0:=by
 have hall:(List.range 17).all (fun i=>(slotOf RAT1 i).isSome)=true:=by kernel_rfl
 refine facts_last (A:=ancAT1) (F:=factsAt (factsAT1 p id k X B0)) 17 (by kernel_rfl) (by kernel_rfl) (by kernel_rfl) (by rw [hsz];kernel_rfl) ?_ (by decide) (fun i v w w'=>factsAt_stable (stableAT1 p id k X B0) i v w w') ?_ ?_
 ·exact fun i hi=>Option.isSome_iff_exists.1 (List.all_eq_true.1 hall i (List.mem_range.2 hi))
 ·intro i hi c w hS hB hF
  exact allAT1 p id k X B0 Q i hi c w ⟨(same_eval hS (by kernel_rfl)).trans hb.t0,(same_eval hS (by kernel_rfl)).trans hb.t3⟩ (hW w hB) hF
 ·intro c w hS hB hF
  obtain ⟨w',h1,h2⟩:=hL c w hS hB (fact_at (p:=eqv (.map (some p.f))) (by kernel_rfl) rfl (hF 3 (by omega))) (fact_at (p:=eqv (.int .i64 k)) (by kernel_rfl) rfl (hF 5 (by omega))) (fact_at (p:=fun v w=>w.ownsRow B0 2 1 v 1 [.int .i64 id]∧∃ a c,v=.slice a 1 c) (by kernel_rfl) rfl (hF 16 (by omega)))
  exact last_skip (by kernel_rfl) (want_none rfl) h1 h2
noncomputable def RAT2  : Array Oper:=regionAt Tryz.f40 2
def LAT2  : List Sig:=[⟨21,.move (.tmp 0),31,none⟩,⟨22,.nilCheck (.tmp 21),0,none⟩,⟨23,.fieldAddr 74 (.tmp 22) 2,0,none⟩,⟨24,.load 72 (.tmp 23),72,none⟩,⟨25,.fieldAddr 49 (.tmp 3) 2,0,none⟩,⟨26,.load 2 (.tmp 25),2,none⟩,⟨27,.move (.tmp 0),31,none⟩,⟨28,.nilCheck (.tmp 27),0,none⟩,⟨29,.fieldAddr 74 (.tmp 28) 2,0,none⟩,⟨30,.load 72 (.tmp 29),72,none⟩,⟨31,.fieldAddr 49 (.tmp 3) 2,0,none⟩,⟨32,.load 2 (.tmp 31),2,none⟩,⟨33,.lookup 72 (.tmp 30) (.tmp 32) false,100,none⟩,⟨34,.fieldAddr 49 (.tmp 3) 0,0,none⟩,⟨35,.load 2 (.tmp 34),2,none⟩,⟨36,.buildSlice 100 1 #[(0,.tmp 35)],100,none⟩,⟨37,.call { callee:=.builtin .append,args:=#[.tmp 33,.tmp 36],argTypes:=#[100,100] },100,none⟩]
theorem hLAT2  : (sigsOf RAT2).take LAT2.length=LAT2.map some:=by kernel_rfl
def ancAT2 (i:Nat):List Nat:=nth [] [[],[0],[1],[2],[],[4],[],[6],[7],[8],[],[10],[9,11],[],[13],[14],[12,15],[0,1,2,3,4,5,6,7,8,9,10,11,12,13,14,15,16]] i
def factsAT2 (p:GP) (id k:Int) (X B0:Nat):List (Value→World→Prop) :=
 [eqv (.pointer (some ⟨p.g,0,none⟩)),eqv (.pointer (some ⟨p.g,0,none⟩)),eqv (.pointer (some ⟨p.g,5,none⟩)),eqv (.map (some p.t)),eqv (.pointer (some ⟨X,2,none⟩)),eqv (.int .i64 k),eqv (.pointer (some ⟨p.g,0,none⟩)),eqv (.pointer (some ⟨p.g,0,none⟩)),eqv (.pointer (some ⟨p.g,5,none⟩)),eqv (.map (some p.t)),eqv (.pointer (some ⟨X,2,none⟩)),eqv (.int .i64 k),eqv (.slice none 0 0),eqv (.pointer (some ⟨X,0,none⟩)),eqv (.int .i64 id),laid [id],fun v w=>w.ownsRow B0 2 1 v 1 [.int .i64 id]∧∃ a c,v=.slice a 1 c]
structure BaseAT2 (p:GP) (id k:Int) (X B0:Nat) (c:Act):Prop where
 t0:c.eval (.tmp 0)=.pointer (some ⟨p.g,0,none⟩)
 t3:c.eval (.tmp 3)=.pointer (some ⟨X,0,none⟩)
structure WorldAT2 (p:GP) (id k:Int) (X B0:Nat) (w:World):Prop where
 cm:w.cell? ⟨p.g,5,none⟩=some (.map (some p.t))
 xk:w.cell? ⟨X,2,none⟩=some (.int .i64 k)
 xi:w.cell? ⟨X,0,none⟩=some (.int .i64 id)
 lk:(Instr.lookup 72 (.map (some p.t)) (.int .i64 k) false).run Tryz.prog w=.ok (.slice none 0 0) w
 b0:B0≤w.heap.size
theorem oAT2_15 (p:GP) (id k:Int) (X B0:Nat) (Q:Exit→Act→World→Prop) (c:Act) (w:World) (hb:BaseAT2 p id k X B0 c) (hW:WorldAT2 p id k X B0 w) (hF:∀ q0 ∈ ancAT2 15,factsAt (factsAT2 p id k X B0) q0 (val RAT2 c q0) w) :
  Does Tryz.prog RAT2 Q (factsAt (factsAT2 p id k X B0)) 15 c w:=by
 have ho:RAT2[15]?=some (⟨some 36,.buildSlice 100 1 #[(0,.tmp 35)],100, "edit.go:127",#[⟨14,.data⟩],none⟩:Oper):=by kernel_rfl
 have e35:c.eval (.tmp 35)=.int .i64 id:=fact_eq (by kernel_rfl) rfl (hF 14 (by decide))
 have hw:Region.wanted (⟨some 36,.buildSlice 100 1 #[(0,.tmp 35)],100, "edit.go:127",#[⟨14,.data⟩],none⟩:Oper) (yielded RAT2 c.tmps)=true:=want_none rfl
 have ec:=evc c
 have ef:=evf c
 refine does_value ho hw (v:=.slice (some ⟨w.heap.size,0,none⟩) 1 1) (w':=w.alloc (.cells #[.int .i64 id] 2)) ?_ ⟨w.heap.size,rfl,by simp,fun j hj=>?_⟩ ((Below.refl _ _).alloc (Nat.le_refl _) _)
 ·generalize c.eval=ρ at *
  clear hF hb hW hw ho
  go_simp
 ·have hj0:j=0:=by simp at hj;omega
  subst hj0
  exact cell_new _ _ _ _ _ rfl
theorem oAT2_16 (p:GP) (id k:Int) (X B0:Nat) (Q:Exit→Act→World→Prop) (c:Act) (w:World) (hb:BaseAT2 p id k X B0 c) (hW:WorldAT2 p id k X B0 w) (hF:∀ q0 ∈ ancAT2 16,factsAt (factsAT2 p id k X B0) q0 (val RAT2 c q0) w) :
  Does Tryz.prog RAT2 Q (factsAt (factsAT2 p id k X B0)) 16 c w:=by
 have ho:RAT2[16]?=some (⟨some 37,.call { callee:=.builtin .append,args:=#[.tmp 33,.tmp 36],argTypes:=#[100,100] },100, "edit.go:127",#[⟨12,.data⟩,⟨15,.data⟩],none⟩:Oper):=by kernel_rfl
 have e33:c.eval (.tmp 33)=.slice none 0 0:=fact_eq (by kernel_rfl) rfl (hF 12 (by decide))
 have f36:(laid [id]) (c.eval (.tmp 36)) w:=fact_at (by kernel_rfl) rfl (hF 15 (by decide))
 have hw:Region.wanted (⟨some 37,.call { callee:=.builtin .append,args:=#[.tmp 33,.tmp 36],argTypes:=#[100,100] },100, "edit.go:127",#[⟨12,.data⟩,⟨15,.data⟩],none⟩:Oper) (yielded RAT2 c.tmps)=true:=want_none rfl
 have ec:=evc c
 have ef:=evf c
 obtain ⟨i0,hi,hz0,hz1,hz2⟩:=info_parts Tryz.info2
 obtain ⟨y,e36,hy,hyc⟩:=f36
 obtain ⟨v',w',hrun,hown,hgr,_,_⟩:=run_append_own_at (P:=Tryz.prog) w B0 100 100 2 i0 (.int .i64 0) 1 8 Tryz.underlying100 hi hz0 hz1 hz2 rfl (by decide) (.slice none 0 0) 0 [] (World.ownsRow_nil _ _ _ _) ⟨y,0,none⟩ 1 1 [.int .i64 id] rfl (fun j u hj=>by
  have hj0:j=0:=by
   have:=(List.getElem?_eq_some_iff.1 hj).1
   simp at this;omega
  subst hj0
  have:u=.int .i64 id:=by simpa using hj.symm
  subst this
  have hadd:(⟨y,0,none⟩:Addr).add 0=⟨y,0,none⟩:=by unfold Addr.add;split<;>simp_all
  rw [hadd]
  exact hyc 0 (by simp)) (by intro u hu;simp only [List.mem_cons,List.not_mem_nil,or_false] at hu;subst hu;rfl) (by unfold maxLen;omega) (by omega) hW.b0
 obtain ⟨ua,uc,rfl⟩:=row_slice hown
 refine does_value ho hw (v:=.slice ua (0+1) uc) (w':=w') ?_ ⟨hown,ua,uc,rfl⟩ ((Below.refl _ w).grown hgr (Nat.le_refl _) (fun q h=>by cases h))
 exact exec_append e33 e36 hrun
theorem stableAT2 (p:GP) (id k:Int) (X B0:Nat):∀ pr ∈ factsAT2 p id k X B0,Stable pr:=by
 unfold factsAT2
 iterate 17 (first | refine List.forall_mem_cons.2 ⟨eqv_stable _,?_⟩ | refine List.forall_mem_cons.2 ⟨laid_stable _,?_⟩ | refine List.forall_mem_cons.2 ⟨fun v w w' ⟨h,h2⟩ hb=>⟨row_keep h fun g _ hg=>hb.block g hg,h2⟩,?_⟩)
 exact List.forall_mem_nil _
theorem uniAT2 (p:GP) (id k:Int) (X B0:Nat) (Q:Exit→Act→World→Prop):∀ i,i<17→(fun i=>i ∉ ([15,16]:List Nat)→∀ c w,BaseAT2 p id k X B0 c→WorldAT2 p id k X B0 w→(∀ q0 ∈ ancAT2 i,factsAt (factsAT2 p id k X B0) q0 (val RAT2 c q0) w)→Does Tryz.prog RAT2 Q (factsAt (factsAT2 p id k X B0)) i c w) i:=by
 iterate 17 (refine below_succ ?_ (by
  intro hn c w hb hW hF
  first
  | exact absurd (by decide) hn
  | (have hEq:=factsL_of hLAT2 (by decide) hF
     refine does_told hLAT2 (by decide) rfl (fun _=>rfl) ?_
     obtain ⟨t0,t3⟩:=hb
     obtain ⟨cm,xk,xi,lk,b0⟩:=hW
     have ec:=evc c
     have ef:=evf c
     dsimp only [ancAT2,LAT2,factsAT2,nth,FactsL,look,eqv] at hEq ⊢
     refine .inl fun pos af=>?_
     clear hF hn
     dsimp only [Sig.oper]
     generalize c.eval=ρ at *
     go_simp
     done)))
 exact below_zero
theorem allAT2 (p:GP) (id k:Int) (X B0:Nat) (Q:Exit→Act→World→Prop):∀ i,i<17→(fun i=>∀ c w,BaseAT2 p id k X B0 c→WorldAT2 p id k X B0 w→(∀ q0 ∈ ancAT2 i,factsAt (factsAT2 p id k X B0) q0 (val RAT2 c q0) w)→Does Tryz.prog RAT2 Q (factsAt (factsAT2 p id k X B0)) i c w) i:=by
 intro i hi
 by_cases h15:i=15
 ·subst h15;exact fun c w=>oAT2_15 p id k X B0 Q c w
 by_cases h16:i=16
 ·subst h16;exact fun c w=>oAT2_16 p id k X B0 Q c w
 exact uniAT2 p id k X B0 Q i hi (by simp [*])
theorem regionAT2 (p:GP) (id k:Int) (X B0:Nat) (Q:Exit→Act→World→Prop) (base:Act) (w0:World) (hsz:base.tmps.size=38) (hb:BaseAT2 p id k X B0 base)
  (hW:∀ w,Below w0.heap.size w0 w→WorldAT2 p id k X B0 w) (hL:∀ c w,Same RAT2 base c→Below w0.heap.size w0 w→c.eval (.tmp 24)=.map (some p.t)→c.eval (.tmp 26)=.int .i64 k→(fun v w=>w.ownsRow B0 2 1 v 1 [.int .i64 id]∧∃ a c,v=.slice a 1 c) (c.eval (.tmp 37)) w→∃ w',(execOp c.eval (⟨none,.mapUpdate 72 (.tmp 24) (.tmp 26) (.tmp 37),0, "edit.go:127",#[⟨3,.data⟩,⟨5,.data⟩,⟨16,.data⟩,⟨16,.chain⟩,⟨0,.phase⟩,⟨1,.phase⟩,⟨2,.phase⟩,⟨3,.phase⟩,⟨4,.phase⟩,⟨5,.phase⟩,⟨6,.phase⟩,⟨7,.phase⟩,⟨8,.phase⟩,⟨9,.phase⟩,⟨10,.phase⟩,⟨11,.phase⟩,⟨12,.phase⟩,⟨13,.phase⟩,⟨14,.phase⟩,⟨15,.phase⟩,⟨16,.phase⟩],none⟩:Oper)).run Tryz.prog w=.ok .skip w'∧Q .normal c w'):(Code.region 2 RAT2 true).wp Tryz.prog Q base w0:=by
 have hall:(List.range 17).all (fun i=>(slotOf RAT2 i).isSome)=true:=by kernel_rfl
 refine facts_last (A:=ancAT2) (F:=factsAt (factsAT2 p id k X B0)) 17 (by kernel_rfl) (by kernel_rfl) (by kernel_rfl) (by rw [hsz];kernel_rfl) ?_ (by decide) (fun i v w w'=>factsAt_stable (stableAT2 p id k X B0) i v w w') ?_ ?_
 ·exact fun i hi=>Option.isSome_iff_exists.1 (List.all_eq_true.1 hall i (List.mem_range.2 hi))
 ·intro i hi c w hS hB hF
  exact allAT2 p id k X B0 Q i hi c w ⟨(same_eval hS (by kernel_rfl)).trans hb.t0,(same_eval hS (by kernel_rfl)).trans hb.t3⟩ (hW w hB) hF
 ·intro c w hS hB hF
  obtain ⟨w',h1,h2⟩:=hL c w hS hB (fact_at (p:=eqv (.map (some p.t))) (by kernel_rfl) rfl (hF 3 (by omega))) (fact_at (p:=eqv (.int .i64 k)) (by kernel_rfl) rfl (hF 5 (by omega))) (fact_at (p:=fun v w=>w.ownsRow B0 2 1 v 1 [.int .i64 id]∧∃ a c,v=.slice a 1 c) (by kernel_rfl) rfl (hF 16 (by omega)))
  exact last_skip (by kernel_rfl) (want_none rfl) h1 h2
end Go.Proofs.YteddjlbfbpecjaaGreatDoor
