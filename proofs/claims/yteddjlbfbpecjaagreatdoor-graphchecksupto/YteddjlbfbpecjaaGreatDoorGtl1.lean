/- Two statements of tell, in whatever order their operations are done: onto what is there. -/
import Derived.Test.YteddjlbfbpecjaaGreatDoorJoin19
import Derived.Test.YteddjlbfbpecjaaGreatDoorJoin21
import Derived.Test.YteddjlbfbpecjaaGreatDoorJoin7
namespace Go.Proofs.YteddjlbfbpecjaaGreatDoor
open Go.RowKit Go.Shelf Go.WideShapes
set_option maxHeartbeats 4000000
set_option maxRecDepth 100000
set_option linter.unusedVariables false
set_option linter.unusedSimpArgs false
noncomputable def RTG5  : Array Oper:=regionAt Tryz.f52 5
def LTG5  : List Sig:=[⟨27,.fieldAddr 25 (.tmp 3) 0,0,none⟩,⟨28,.load 22 (.tmp 27),22,none⟩,⟨29,.move (.tmp 0),153,none⟩,⟨30,.nilCheck (.tmp 29),0,none⟩,⟨31,.fieldAddr 71 (.tmp 30) 0,0,none⟩,⟨32,.load 68 (.tmp 31),68,none⟩,⟨33,.move (.tmp 5),2,none⟩,⟨34,.lookup 68 (.tmp 32) (.tmp 33) false,47,none⟩,⟨35,.buildSlice 22 1 #[(0,.tmp 34)],22,none⟩,⟨36,.call { callee:=.builtin .append,args:=#[.tmp 28,.tmp 35],argTypes:=#[22,22] },22,none⟩,⟨37,.fieldAddr 25 (.tmp 3) 0,0,none⟩]
theorem hLTG5  : (sigsOf RTG5).take LTG5.length=LTG5.map some:=by kernel_rfl
def ancTG5 (i:Nat):List Nat:=nth [] [[],[0],[],[2],[3],[4],[],[5,6],[7],[1,8],[],[0,1,2,3,4,5,6,7,8,9,10]] i
def factsTG5 (row:Option Nat) (w0:World) (p:GP) (id:Int) (X B0:Nat) (SV:Value) (n:Nat) (xs:List Value) (k:Int) (la:Option Addr) (ln lc:Nat) (pa:Option Addr) (pn pc:Nat):List (Value→World→Prop) :=
 [eqv (.pointer (some ⟨X,0,none⟩)),eqv (SV),eqv (.pointer (some ⟨p.g,0,none⟩)),eqv (.pointer (some ⟨p.g,0,none⟩)),eqv (.pointer (some ⟨p.g,0,none⟩)),eqv (.map (some p.n)),eqv (.int .i64 id),eqv (.agg #[.int .i64 k,.slice la ln lc,.slice pa pn pc]),fun v w=>∃ y,v=.slice (some ⟨y,0,none⟩) 1 1∧some y≠row∧Rec w y #[.int .i64 k,.slice la ln lc,.slice pa pn pc] 47,fun v w=>w.ownsRow B0 47 3 v (n+1) (xs++[.int .i64 k,.slice la ln lc,.slice pa pn pc])∧∃ a c,v=.slice a (n+1) c,eqv (.pointer (some ⟨X,0,none⟩))]
structure BaseTG5 (row:Option Nat) (w0:World) (p:GP) (id:Int) (X B0:Nat) (SV:Value) (n:Nat) (xs:List Value) (k:Int) (la:Option Addr) (ln lc:Nat) (pa:Option Addr) (pn pc:Nat) (c:Act):Prop where
 t0:c.eval (.tmp 0)=.pointer (some ⟨p.g,0,none⟩)
 t3:c.eval (.tmp 3)=.pointer (some ⟨X,0,none⟩)
 t5:c.eval (.tmp 5)=.int .i64 id
structure WorldTG5 (row:Option Nat) (w0:World) (p:GP) (id:Int) (X B0:Nat) (SV:Value) (n:Nat) (xs:List Value) (k:Int) (la:Option Addr) (ln lc:Nat) (pa:Option Addr) (pn pc:Nat) (w:World):Prop where
 x0:w.cell? ⟨X,0,none⟩=some SV
 sl:∃ a c,SV=.slice a n c
 c0:w.cell? ⟨p.g,0,none⟩=some (.map (some p.n))
 lk:(Instr.lookup 68 (.map (some p.n)) (.int .i64 id) false).run Tryz.prog w=.ok (.agg #[.int .i64 k,.slice la ln lc,.slice pa pn pc]) w
 rb:∀ q,row=some q→q<w.heap.size
theorem oTG5_1 (row:Option Nat) (w0:World) (p:GP) (id:Int) (X B0:Nat) (SV:Value) (n:Nat) (xs:List Value) (k:Int) (la:Option Addr) (ln lc:Nat) (pa:Option Addr) (pn pc:Nat) (Q:Exit→Act→World→Prop) (c:Act) (w:World) (hb:BaseTG5 row w0 p id X B0 SV n xs k la ln lc pa pn pc c) (hW:WorldTG5 row w0 p id X B0 SV n xs k la ln lc pa pn pc w) (hF:∀ q0 ∈ ancTG5 1,factsAt (factsTG5 row w0 p id X B0 SV n xs k la ln lc pa pn pc) q0 (val RTG5 c q0) w) :
  Does Tryz.prog RTG5 Q (factsAt (factsTG5 row w0 p id X B0 SV n xs k la ln lc pa pn pc)) 1 c w:=by
 have ho:RTG5[1]?=some (⟨some 28,.load 22 (.tmp 27),22, "graph.go:128",#[⟨0,.data⟩],none⟩:Oper):=by kernel_rfl
 have e27:c.eval (.tmp 27)=.pointer (some ⟨X,0,none⟩):=fact_eq (by kernel_rfl) rfl (hF 0 (by decide))
 have hw:Region.wanted (⟨some 28,.load 22 (.tmp 27),22, "graph.go:128",#[⟨0,.data⟩],none⟩:Oper) (yielded RTG5 c.tmps)=true:=want_none rfl
 have ec:=evc c
 have ef:=evf c
 have x0:=hW.x0
 refine does_value ho hw (v:=SV) ?_ rfl (Below.refl _ _)
 generalize c.eval=ρ at *
 obtain ⟨sa,sc,rfl⟩:=hW.sl
 clear hF hb hW hw ho
 go_simp
theorem oTG5_8 (row:Option Nat) (w0:World) (p:GP) (id:Int) (X B0:Nat) (SV:Value) (n:Nat) (xs:List Value) (k:Int) (la:Option Addr) (ln lc:Nat) (pa:Option Addr) (pn pc:Nat) (Q:Exit→Act→World→Prop) (c:Act) (w:World) (hb:BaseTG5 row w0 p id X B0 SV n xs k la ln lc pa pn pc c) (hW:WorldTG5 row w0 p id X B0 SV n xs k la ln lc pa pn pc w) (hF:∀ q0 ∈ ancTG5 8,factsAt (factsTG5 row w0 p id X B0 SV n xs k la ln lc pa pn pc) q0 (val RTG5 c q0) w) :
  Does Tryz.prog RTG5 Q (factsAt (factsTG5 row w0 p id X B0 SV n xs k la ln lc pa pn pc)) 8 c w:=by
 have ho:RTG5[8]?=some (⟨some 35,.buildSlice 22 1 #[(0,.tmp 34)],22, "graph.go:128",#[⟨7,.data⟩],none⟩:Oper):=by kernel_rfl
 have e34:c.eval (.tmp 34)=.agg #[.int .i64 k,.slice la ln lc,.slice pa pn pc]:=fact_eq (by kernel_rfl) rfl (hF 7 (by decide))
 have hw:Region.wanted (⟨some 35,.buildSlice 22 1 #[(0,.tmp 34)],22, "graph.go:128",#[⟨7,.data⟩],none⟩:Oper) (yielded RTG5 c.tmps)=true:=want_none rfl
 have ec:=evc c
 have ef:=evf c
 refine does_value ho hw (v:=.slice (some ⟨w.heap.size,0,none⟩) 1 1) (w':=w.alloc (.cells #[.int .i64 k,.slice la ln lc,.slice pa pn pc] 47)) ?_ ⟨w.heap.size,rfl,fun h=>by have:=hW.rb _ h.symm;omega,rec_new _ _ _⟩ ((Below.refl _ _).alloc (Nat.le_refl _) _)
 generalize c.eval=ρ at *
 clear hF hb hW hw ho
 go_simp
theorem oTG5_9 (row:Option Nat) (w0:World) (p:GP) (id:Int) (X B0:Nat) (SV:Value) (n:Nat) (xs:List Value) (k:Int) (la:Option Addr) (ln lc:Nat) (pa:Option Addr) (pn pc:Nat) (Q:Exit→Act→World→Prop) (c:Act) (w:World) (hb:BaseTG5 row w0 p id X B0 SV n xs k la ln lc pa pn pc c) (hW:WorldTG5 row w0 p id X B0 SV n xs k la ln lc pa pn pc w) (hO:w.ownsRow B0 47 3 SV n xs∧n≤4000000∧B0≤w.heap.size∧SV.ownBlock=row∧w0.heap.size≤w.heap.size) (hF:∀ q0 ∈ ancTG5 9,factsAt (factsTG5 row w0 p id X B0 SV n xs k la ln lc pa pn pc) q0 (val RTG5 c q0) w) :
  DoesR Tryz.prog RTG5 Q (factsAt (factsTG5 row w0 p id X B0 SV n xs k la ln lc pa pn pc)) (fun a b=>a.grownBy b row) 9 c w:=by
 have ho:RTG5[9]?=some (⟨some 36,.call { callee:=.builtin .append,args:=#[.tmp 28,.tmp 35],argTypes:=#[22,22] },22, "graph.go:128",#[⟨1,.data⟩,⟨8,.data⟩],none⟩:Oper):=by kernel_rfl
 have e28:c.eval (.tmp 28)=SV:=fact_eq (by kernel_rfl) rfl (hF 1 (by decide))
 have f35:(fun v w=>∃ y,v=.slice (some ⟨y,0,none⟩) 1 1∧some y≠row∧Rec w y #[.int .i64 k,.slice la ln lc,.slice pa pn pc] 47) (c.eval (.tmp 35)) w:=fact_at (by kernel_rfl) rfl (hF 8 (by decide))
 have hw:Region.wanted (⟨some 36,.call { callee:=.builtin .append,args:=#[.tmp 28,.tmp 35],argTypes:=#[22,22] },22, "graph.go:128",#[⟨1,.data⟩,⟨8,.data⟩],none⟩:Oper) (yielded RTG5 c.tmps)=true:=want_none rfl
 have ec:=evc c
 have ef:=evf c
 obtain ⟨i0,hi,hz0,hz1,hz2⟩:=info_parts Tryz.info47
 obtain ⟨y,e35,hyr,hy⟩:=f35
 obtain ⟨h1,h2,h3,h4,h5⟩:=hO
 obtain ⟨v',w',hrun,hown,hgr,_,hbl⟩:=run_append_own_at (P:=Tryz.prog) w B0 22 22 47 i0 (.agg #[.int .i64 0,.slice none 0 0,.slice none 0 0]) 3 56 Tryz.underlying22 hi hz0 hz1 hz2 rfl (by decide) SV n xs h1 ⟨y,0,none⟩ 1 1 [.int .i64 k,.slice la ln lc,.slice pa pn pc] rfl (fun j u hj=>by
  have hadd:(⟨y,0,none⟩:Addr).add j=⟨y,j,none⟩:=by unfold Addr.add;split<;>simp_all
  rw [hadd]
  exact hy.cell j (by simpa using hj)) (by intro u hu;simp only [List.mem_cons,List.not_mem_nil,or_false] at hu;rcases hu with rfl | rfl | rfl<;>rfl) (by unfold maxLen;omega) (by omega) h3
 obtain ⟨ua,uc,rfl⟩:=row_slice hown
 refine doesR_value ho hw (v:=.slice ua (n+1) uc) (w':=w') ?_ ⟨hown,ua,uc,rfl⟩ (h4▸hgr)
 exact exec_append e28 e35 hrun
theorem stableTG5 (row:Option Nat) (w0:World) (p:GP) (id:Int) (X B0:Nat) (SV:Value) (n:Nat) (xs:List Value) (k:Int) (la:Option Addr) (ln lc:Nat) (pa:Option Addr) (pn pc:Nat):∀ pr ∈ factsTG5 row w0 p id X B0 SV n xs k la ln lc pa pn pc,Stable pr:=by
 unfold factsTG5
 iterate 11 (first | refine List.forall_mem_cons.2 ⟨eqv_stable _,?_⟩ | refine List.forall_mem_cons.2 ⟨fun v w w' ⟨y,h,hy,hr⟩ hb=>⟨y,h,hy,hr.below hb hr.lt⟩,?_⟩ | refine List.forall_mem_cons.2 ⟨fun v w w' ⟨h,h2⟩ hb=>⟨row_keep h fun g _ hg=>hb.block g hg,h2⟩,?_⟩)
 exact List.forall_mem_nil _
theorem stableRTG5 (row:Option Nat) (w0:World) (p:GP) (id:Int) (X B0:Nat) (SV:Value) (n:Nat) (xs:List Value) (k:Int) (la:Option Addr) (ln lc:Nat) (pa:Option Addr) (pn pc:Nat):∀ pr ∈ (factsTG5 row w0 p id X B0 SV n xs k la ln lc pa pn pc).set 9 (fun _ _=>True),StableR row w0 pr:=by
 unfold factsTG5
 simp only [List.set_cons_succ,List.set_cons_zero]
 iterate 11 (first | refine List.forall_mem_cons.2 ⟨eqv_stableR _ _ _,?_⟩ | refine List.forall_mem_cons.2 ⟨fun _ _ _ _ _ _=>trivial,?_⟩ | refine List.forall_mem_cons.2 ⟨fun v w w' ⟨y,h,hy,hr⟩ _ hg=>⟨y,h,hy,hr.keep (hg.block y hr.lt hy)⟩,?_⟩)
 exact List.forall_mem_nil _
theorem uniTG5 (row:Option Nat) (w0:World) (p:GP) (id:Int) (X B0:Nat) (SV:Value) (n:Nat) (xs:List Value) (k:Int) (la:Option Addr) (ln lc:Nat) (pa:Option Addr) (pn pc:Nat) (Q:Exit→Act→World→Prop):∀ i,i<11→(fun i=>i ∉ ([1,8,9]:List Nat)→∀ c w,BaseTG5 row w0 p id X B0 SV n xs k la ln lc pa pn pc c→WorldTG5 row w0 p id X B0 SV n xs k la ln lc pa pn pc w→(∀ q0 ∈ ancTG5 i,factsAt (factsTG5 row w0 p id X B0 SV n xs k la ln lc pa pn pc) q0 (val RTG5 c q0) w)→Does Tryz.prog RTG5 Q (factsAt (factsTG5 row w0 p id X B0 SV n xs k la ln lc pa pn pc)) i c w) i:=by
 iterate 11 (refine below_succ ?_ (by
  intro hn c w hb hW hF
  first
  | exact absurd (by decide) hn
  | (have hEq:=factsL_of hLTG5 (by decide) hF
     refine does_told hLTG5 (by decide) rfl (fun _=>rfl) ?_
     obtain ⟨t0,t3,t5⟩:=hb
     obtain ⟨x0,sl,c0,lk,rb⟩:=hW
     have ec:=evc c
     have ef:=evf c
     dsimp only [ancTG5,LTG5,factsTG5,nth,FactsL,look,eqv] at hEq ⊢
     refine .inl fun pos af=>?_
     clear hF hn
     dsimp only [Sig.oper]
     generalize c.eval=ρ at *
     go_simp
     done)))
 exact below_zero
theorem allTG5 (row:Option Nat) (w0:World) (p:GP) (id:Int) (X B0:Nat) (SV:Value) (n:Nat) (xs:List Value) (k:Int) (la:Option Addr) (ln lc:Nat) (pa:Option Addr) (pn pc:Nat) (Q:Exit→Act→World→Prop):∀ i,i<11→(fun i=>i≠9→∀ c w,BaseTG5 row w0 p id X B0 SV n xs k la ln lc pa pn pc c→WorldTG5 row w0 p id X B0 SV n xs k la ln lc pa pn pc w→(∀ q0 ∈ ancTG5 i,factsAt (factsTG5 row w0 p id X B0 SV n xs k la ln lc pa pn pc) q0 (val RTG5 c q0) w)→Does Tryz.prog RTG5 Q (factsAt (factsTG5 row w0 p id X B0 SV n xs k la ln lc pa pn pc)) i c w) i:=by
 intro i hi hne
 by_cases h1:i=1
 ·subst h1;exact fun c w=>oTG5_1 row w0 p id X B0 SV n xs k la ln lc pa pn pc Q c w
 by_cases h8:i=8
 ·subst h8;exact fun c w=>oTG5_8 row w0 p id X B0 SV n xs k la ln lc pa pn pc Q c w
 exact uniTG5 row w0 p id X B0 SV n xs k la ln lc pa pn pc Q i hi (by simp [*])
theorem regionTG5 (row:Option Nat) (w0:World) (p:GP) (id:Int) (X B0:Nat) (SV:Value) (n:Nat) (xs:List Value) (k:Int) (la:Option Addr) (ln lc:Nat) (pa:Option Addr) (pn pc:Nat) (Q:Exit→Act→World→Prop) (base:Act) (hsz:base.tmps.size=62) (hb:BaseTG5 row w0 p id X B0 SV n xs k la ln lc pa pn pc base)
  (hW:∀ w,w0.grownBy w row→WorldTG5 row w0 p id X B0 SV n xs k la ln lc pa pn pc w) (hO:∀ w,Below w0.heap.size w0 w→w.ownsRow B0 47 3 SV n xs∧n≤4000000∧B0≤w.heap.size∧SV.ownBlock=row∧w0.heap.size≤w.heap.size) (hL:∀ c w,Same RTG5 base c→w0.grownBy w row→(fun v w=>w.ownsRow B0 47 3 v (n+1) (xs++[.int .i64 k,.slice la ln lc,.slice pa pn pc])∧∃ a c,v=.slice a (n+1) c) (c.eval (.tmp 36)) w→c.eval (.tmp 37)=.pointer (some ⟨X,0,none⟩)→∃ w',(execOp c.eval (⟨none,.store 22 (.tmp 37) (.tmp 36),0, "graph.go:128",#[⟨10,.data⟩,⟨9,.data⟩,⟨9,.chain⟩,⟨0,.phase⟩,⟨1,.phase⟩,⟨2,.phase⟩,⟨3,.phase⟩,⟨4,.phase⟩,⟨5,.phase⟩,⟨6,.phase⟩,⟨7,.phase⟩,⟨8,.phase⟩,⟨9,.phase⟩],none⟩:Oper)).run Tryz.prog w=.ok .skip w'∧Q .normal c w'):(Code.region 5 RTG5 true).wp Tryz.prog Q base w0:=by
 have hall:(List.range 11).all (fun i=>(slotOf RTG5 i).isSome)=true:=by kernel_rfl
 refine facts_lastR (A:=ancTG5) (F:=factsAt (factsTG5 row w0 p id X B0 SV n xs k la ln lc pa pn pc)) (Rel:=fun a b=>a.grownBy b row) (fun _ _ h=>grown_below h) (fun _ _ _ h1 h2=>grown_trans h1 h2) 11 (by kernel_rfl) (by kernel_rfl) (by kernel_rfl) (by rw [hsz];kernel_rfl) ?_ (by decide) 9 (fun i v w w' hf _ hb=>factsAt_stable (stableTG5 row w0 p id X B0 SV n xs k la ln lc pa pn pc) i v w w' hf hb) (fun i hi v w w'=>factsAt_stableR (stableRTG5 row w0 p id X B0 SV n xs k la ln lc pa pn pc) i hi v w w') ?_ ?_ ?_
 ·exact fun i hi=>Option.isSome_iff_exists.1 (List.all_eq_true.1 hall i (List.mem_range.2 hi))
 ·intro i hi hne c w hS hB hF
  exact allTG5 row w0 p id X B0 SV n xs k la ln lc pa pn pc Q i hi hne c w ⟨(same_eval hS (by kernel_rfl)).trans hb.t0,(same_eval hS (by kernel_rfl)).trans hb.t3,(same_eval hS (by kernel_rfl)).trans hb.t5⟩ (hW w hB) hF
 ·intro hi c w hS hB hF
  exact oTG5_9 row w0 p id X B0 SV n xs k la ln lc pa pn pc Q c w ⟨(same_eval hS (by kernel_rfl)).trans hb.t0,(same_eval hS (by kernel_rfl)).trans hb.t3,(same_eval hS (by kernel_rfl)).trans hb.t5⟩ (hW w (grown_below hB)) (hO w hB) hF
 ·intro c w hS hB hF
  obtain ⟨w',h1,h2⟩:=hL c w hS hB (fact_at (p:=fun v w=>w.ownsRow B0 47 3 v (n+1) (xs++[.int .i64 k,.slice la ln lc,.slice pa pn pc])∧∃ a c,v=.slice a (n+1) c) (by kernel_rfl) rfl (hF 9 (by omega))) (fact_at (p:=eqv (.pointer (some ⟨X,0,none⟩))) (by kernel_rfl) rfl (hF 10 (by omega)))
  exact last_skip (by kernel_rfl) (want_none rfl) h1 h2
noncomputable def RTG10  : Array Oper:=regionAt Tryz.f52 10
def LTG10  : List Sig:=[⟨49,.fieldAddr 25 (.tmp 3) 1,0,none⟩,⟨50,.load 23 (.tmp 49),23,none⟩,⟨51,.move (.tmp 0),153,none⟩,⟨52,.nilCheck (.tmp 51),0,none⟩,⟨53,.fieldAddr 71 (.tmp 52) 1,0,none⟩,⟨54,.load 69 (.tmp 53),69,none⟩,⟨55,.move (.tmp 7),2,none⟩,⟨56,.lookup 69 (.tmp 54) (.tmp 55) false,49,none⟩,⟨57,.buildSlice 23 1 #[(0,.tmp 56)],23,none⟩,⟨58,.call { callee:=.builtin .append,args:=#[.tmp 50,.tmp 57],argTypes:=#[23,23] },23,none⟩,⟨59,.fieldAddr 25 (.tmp 3) 1,0,none⟩]
theorem hLTG10  : (sigsOf RTG10).take LTG10.length=LTG10.map some:=by kernel_rfl
def ancTG10 (i:Nat):List Nat:=nth [] [[],[0],[],[2],[3],[4],[],[5,6],[7],[1,8],[],[0,1,2,3,4,5,6,7,8,9,10]] i
def factsTG10 (row:Option Nat) (w0:World) (p:GP) (id:Int) (X B0:Nat) (SV:Value) (n:Nat) (xs:List Value) (k f t:Int) (s:ByteArray) (pa:Option Addr) (pn pc:Nat):List (Value→World→Prop) :=
 [eqv (.pointer (some ⟨X,1,none⟩)),eqv (SV),eqv (.pointer (some ⟨p.g,0,none⟩)),eqv (.pointer (some ⟨p.g,0,none⟩)),eqv (.pointer (some ⟨p.g,1,none⟩)),eqv (.map (some p.r)),eqv (.int .i64 id),eqv (.agg #[.int .i64 k,.int .i64 f,.int .i64 t,.string s,.slice pa pn pc]),fun v w=>∃ y,v=.slice (some ⟨y,0,none⟩) 1 1∧some y≠row∧Rec w y #[.int .i64 k,.int .i64 f,.int .i64 t,.string s,.slice pa pn pc] 49,fun v w=>w.ownsRow B0 49 5 v (n+1) (xs++[.int .i64 k,.int .i64 f,.int .i64 t,.string s,.slice pa pn pc])∧∃ a c,v=.slice a (n+1) c,eqv (.pointer (some ⟨X,1,none⟩))]
structure BaseTG10 (row:Option Nat) (w0:World) (p:GP) (id:Int) (X B0:Nat) (SV:Value) (n:Nat) (xs:List Value) (k f t:Int) (s:ByteArray) (pa:Option Addr) (pn pc:Nat) (c:Act):Prop where
 t0:c.eval (.tmp 0)=.pointer (some ⟨p.g,0,none⟩)
 t3:c.eval (.tmp 3)=.pointer (some ⟨X,0,none⟩)
 t7:c.eval (.tmp 7)=.int .i64 id
structure WorldTG10 (row:Option Nat) (w0:World) (p:GP) (id:Int) (X B0:Nat) (SV:Value) (n:Nat) (xs:List Value) (k f t:Int) (s:ByteArray) (pa:Option Addr) (pn pc:Nat) (w:World):Prop where
 x0:w.cell? ⟨X,1,none⟩=some SV
 sl:∃ a c,SV=.slice a n c
 c0:w.cell? ⟨p.g,1,none⟩=some (.map (some p.r))
 lk:(Instr.lookup 69 (.map (some p.r)) (.int .i64 id) false).run Tryz.prog w=.ok (.agg #[.int .i64 k,.int .i64 f,.int .i64 t,.string s,.slice pa pn pc]) w
 rb:∀ q,row=some q→q<w.heap.size
theorem oTG10_1 (row:Option Nat) (w0:World) (p:GP) (id:Int) (X B0:Nat) (SV:Value) (n:Nat) (xs:List Value) (k f t:Int) (s:ByteArray) (pa:Option Addr) (pn pc:Nat) (Q:Exit→Act→World→Prop) (c:Act) (w:World) (hb:BaseTG10 row w0 p id X B0 SV n xs k f t s pa pn pc c) (hW:WorldTG10 row w0 p id X B0 SV n xs k f t s pa pn pc w) (hF:∀ q0 ∈ ancTG10 1,factsAt (factsTG10 row w0 p id X B0 SV n xs k f t s pa pn pc) q0 (val RTG10 c q0) w) :
  Does Tryz.prog RTG10 Q (factsAt (factsTG10 row w0 p id X B0 SV n xs k f t s pa pn pc)) 1 c w:=by
 have ho:RTG10[1]?=some (⟨some 50,.load 23 (.tmp 49),23, "graph.go:131",#[⟨0,.data⟩],none⟩:Oper):=by kernel_rfl
 have e49:c.eval (.tmp 49)=.pointer (some ⟨X,1,none⟩):=fact_eq (by kernel_rfl) rfl (hF 0 (by decide))
 have hw:Region.wanted (⟨some 50,.load 23 (.tmp 49),23, "graph.go:131",#[⟨0,.data⟩],none⟩:Oper) (yielded RTG10 c.tmps)=true:=want_none rfl
 have ec:=evc c
 have ef:=evf c
 have x0:=hW.x0
 refine does_value ho hw (v:=SV) ?_ rfl (Below.refl _ _)
 generalize c.eval=ρ at *
 obtain ⟨sa,sc,rfl⟩:=hW.sl
 clear hF hb hW hw ho
 go_simp
theorem oTG10_8 (row:Option Nat) (w0:World) (p:GP) (id:Int) (X B0:Nat) (SV:Value) (n:Nat) (xs:List Value) (k f t:Int) (s:ByteArray) (pa:Option Addr) (pn pc:Nat) (Q:Exit→Act→World→Prop) (c:Act) (w:World) (hb:BaseTG10 row w0 p id X B0 SV n xs k f t s pa pn pc c) (hW:WorldTG10 row w0 p id X B0 SV n xs k f t s pa pn pc w) (hF:∀ q0 ∈ ancTG10 8,factsAt (factsTG10 row w0 p id X B0 SV n xs k f t s pa pn pc) q0 (val RTG10 c q0) w) :
  Does Tryz.prog RTG10 Q (factsAt (factsTG10 row w0 p id X B0 SV n xs k f t s pa pn pc)) 8 c w:=by
 have ho:RTG10[8]?=some (⟨some 57,.buildSlice 23 1 #[(0,.tmp 56)],23, "graph.go:131",#[⟨7,.data⟩],none⟩:Oper):=by kernel_rfl
 have e56:c.eval (.tmp 56)=.agg #[.int .i64 k,.int .i64 f,.int .i64 t,.string s,.slice pa pn pc]:=fact_eq (by kernel_rfl) rfl (hF 7 (by decide))
 have hw:Region.wanted (⟨some 57,.buildSlice 23 1 #[(0,.tmp 56)],23, "graph.go:131",#[⟨7,.data⟩],none⟩:Oper) (yielded RTG10 c.tmps)=true:=want_none rfl
 have ec:=evc c
 have ef:=evf c
 refine does_value ho hw (v:=.slice (some ⟨w.heap.size,0,none⟩) 1 1) (w':=w.alloc (.cells #[.int .i64 k,.int .i64 f,.int .i64 t,.string s,.slice pa pn pc] 49)) ?_ ⟨w.heap.size,rfl,fun h=>by have:=hW.rb _ h.symm;omega,rec_new _ _ _⟩ ((Below.refl _ _).alloc (Nat.le_refl _) _)
 generalize c.eval=ρ at *
 clear hF hb hW hw ho
 go_simp
theorem oTG10_9 (row:Option Nat) (w0:World) (p:GP) (id:Int) (X B0:Nat) (SV:Value) (n:Nat) (xs:List Value) (k f t:Int) (s:ByteArray) (pa:Option Addr) (pn pc:Nat) (Q:Exit→Act→World→Prop) (c:Act) (w:World) (hb:BaseTG10 row w0 p id X B0 SV n xs k f t s pa pn pc c) (hW:WorldTG10 row w0 p id X B0 SV n xs k f t s pa pn pc w) (hO:w.ownsRow B0 49 5 SV n xs∧n≤4000000∧B0≤w.heap.size∧SV.ownBlock=row∧w0.heap.size≤w.heap.size) (hF:∀ q0 ∈ ancTG10 9,factsAt (factsTG10 row w0 p id X B0 SV n xs k f t s pa pn pc) q0 (val RTG10 c q0) w) :
  DoesR Tryz.prog RTG10 Q (factsAt (factsTG10 row w0 p id X B0 SV n xs k f t s pa pn pc)) (fun a b=>a.grownBy b row) 9 c w:=by
 have ho:RTG10[9]?=some (⟨some 58,.call { callee:=.builtin .append,args:=#[.tmp 50,.tmp 57],argTypes:=#[23,23] },23, "graph.go:131",#[⟨1,.data⟩,⟨8,.data⟩],none⟩:Oper):=by kernel_rfl
 have e50:c.eval (.tmp 50)=SV:=fact_eq (by kernel_rfl) rfl (hF 1 (by decide))
 have f57:(fun v w=>∃ y,v=.slice (some ⟨y,0,none⟩) 1 1∧some y≠row∧Rec w y #[.int .i64 k,.int .i64 f,.int .i64 t,.string s,.slice pa pn pc] 49) (c.eval (.tmp 57)) w:=fact_at (by kernel_rfl) rfl (hF 8 (by decide))
 have hw:Region.wanted (⟨some 58,.call { callee:=.builtin .append,args:=#[.tmp 50,.tmp 57],argTypes:=#[23,23] },23, "graph.go:131",#[⟨1,.data⟩,⟨8,.data⟩],none⟩:Oper) (yielded RTG10 c.tmps)=true:=want_none rfl
 have ec:=evc c
 have ef:=evf c
 obtain ⟨i0,hi,hz0,hz1,hz2⟩:=info_parts Tryz.info49'
 obtain ⟨y,e57,hyr,hy⟩:=f57
 obtain ⟨h1,h2,h3,h4,h5⟩:=hO
 obtain ⟨v',w',hrun,hown,hgr,_,hbl⟩:=run_append_own_at (P:=Tryz.prog) w B0 23 23 49 i0 (.agg #[.int .i64 0,.int .i64 0,.int .i64 0,.string ⟨#[]⟩,.slice none 0 0]) 5 64 Tryz.underlying23 hi hz0 hz1 hz2 rfl (by decide) SV n xs h1 ⟨y,0,none⟩ 1 1 [.int .i64 k,.int .i64 f,.int .i64 t,.string s,.slice pa pn pc] rfl (fun j u hj=>by
  have hadd:(⟨y,0,none⟩:Addr).add j=⟨y,j,none⟩:=by unfold Addr.add;split<;>simp_all
  rw [hadd]
  exact hy.cell j (by simpa using hj)) (by intro u hu;simp only [List.mem_cons,List.not_mem_nil,or_false] at hu;rcases hu with rfl | rfl | rfl | rfl | rfl<;>rfl) (by unfold maxLen;omega) (by omega) h3
 obtain ⟨ua,uc,rfl⟩:=row_slice hown
 refine doesR_value ho hw (v:=.slice ua (n+1) uc) (w':=w') ?_ ⟨hown,ua,uc,rfl⟩ (h4▸hgr)
 exact exec_append e50 e57 hrun
theorem stableTG10 (row:Option Nat) (w0:World) (p:GP) (id:Int) (X B0:Nat) (SV:Value) (n:Nat) (xs:List Value) (k f t:Int) (s:ByteArray) (pa:Option Addr) (pn pc:Nat):∀ pr ∈ factsTG10 row w0 p id X B0 SV n xs k f t s pa pn pc,Stable pr:=by
 unfold factsTG10
 iterate 11 (first | refine List.forall_mem_cons.2 ⟨eqv_stable _,?_⟩ | refine List.forall_mem_cons.2 ⟨fun v w w' ⟨y,h,hy,hr⟩ hb=>⟨y,h,hy,hr.below hb hr.lt⟩,?_⟩ | refine List.forall_mem_cons.2 ⟨fun v w w' ⟨h,h2⟩ hb=>⟨row_keep h fun g _ hg=>hb.block g hg,h2⟩,?_⟩)
 exact List.forall_mem_nil _
theorem stableRTG10 (row:Option Nat) (w0:World) (p:GP) (id:Int) (X B0:Nat) (SV:Value) (n:Nat) (xs:List Value) (k f t:Int) (s:ByteArray) (pa:Option Addr) (pn pc:Nat):∀ pr ∈ (factsTG10 row w0 p id X B0 SV n xs k f t s pa pn pc).set 9 (fun _ _=>True),StableR row w0 pr:=by
 unfold factsTG10
 simp only [List.set_cons_succ,List.set_cons_zero]
 iterate 11 (first | refine List.forall_mem_cons.2 ⟨eqv_stableR _ _ _,?_⟩ | refine List.forall_mem_cons.2 ⟨fun _ _ _ _ _ _=>trivial,?_⟩ | refine List.forall_mem_cons.2 ⟨fun v w w' ⟨y,h,hy,hr⟩ _ hg=>⟨y,h,hy,hr.keep (hg.block y hr.lt hy)⟩,?_⟩)
 exact List.forall_mem_nil _
theorem uniTG10 (row:Option Nat) (w0:World) (p:GP) (id:Int) (X B0:Nat) (SV:Value) (n:Nat) (xs:List Value) (k f t:Int) (s:ByteArray) (pa:Option Addr) (pn pc:Nat) (Q:Exit→Act→World→Prop):∀ i,i<11→(fun i=>i ∉ ([1,8,9]:List Nat)→∀ c w,BaseTG10 row w0 p id X B0 SV n xs k f t s pa pn pc c→WorldTG10 row w0 p id X B0 SV n xs k f t s pa pn pc w→(∀ q0 ∈ ancTG10 i,factsAt (factsTG10 row w0 p id X B0 SV n xs k f t s pa pn pc) q0 (val RTG10 c q0) w)→Does Tryz.prog RTG10 Q (factsAt (factsTG10 row w0 p id X B0 SV n xs k f t s pa pn pc)) i c w) i:=by
 iterate 11 (refine below_succ ?_ (by
  intro hn c w hb hW hF
  first
  | exact absurd (by decide) hn
  | (have hEq:=factsL_of hLTG10 (by decide) hF
     refine does_told hLTG10 (by decide) rfl (fun _=>rfl) ?_
     obtain ⟨t0,t3,t7⟩:=hb
     obtain ⟨x0,sl,c0,lk,rb⟩:=hW
     have ec:=evc c
     have ef:=evf c
     dsimp only [ancTG10,LTG10,factsTG10,nth,FactsL,look,eqv] at hEq ⊢
     refine .inl fun pos af=>?_
     clear hF hn
     dsimp only [Sig.oper]
     generalize c.eval=ρ at *
     go_simp
     done)))
 exact below_zero
theorem allTG10 (row:Option Nat) (w0:World) (p:GP) (id:Int) (X B0:Nat) (SV:Value) (n:Nat) (xs:List Value) (k f t:Int) (s:ByteArray) (pa:Option Addr) (pn pc:Nat) (Q:Exit→Act→World→Prop):∀ i,i<11→(fun i=>i≠9→∀ c w,BaseTG10 row w0 p id X B0 SV n xs k f t s pa pn pc c→WorldTG10 row w0 p id X B0 SV n xs k f t s pa pn pc w→(∀ q0 ∈ ancTG10 i,factsAt (factsTG10 row w0 p id X B0 SV n xs k f t s pa pn pc) q0 (val RTG10 c q0) w)→Does Tryz.prog RTG10 Q (factsAt (factsTG10 row w0 p id X B0 SV n xs k f t s pa pn pc)) i c w) i:=by
 intro i hi hne
 by_cases h1:i=1
 ·subst h1;exact fun c w=>oTG10_1 row w0 p id X B0 SV n xs k f t s pa pn pc Q c w
 by_cases h8:i=8
 ·subst h8;exact fun c w=>oTG10_8 row w0 p id X B0 SV n xs k f t s pa pn pc Q c w
 exact uniTG10 row w0 p id X B0 SV n xs k f t s pa pn pc Q i hi (by simp [*])
theorem regionTG10 (row:Option Nat) (w0:World) (p:GP) (id:Int) (X B0:Nat) (SV:Value) (n:Nat) (xs:List Value) (k f t:Int) (s:ByteArray) (pa:Option Addr) (pn pc:Nat) (Q:Exit→Act→World→Prop) (base:Act) (hsz:base.tmps.size=62) (hb:BaseTG10 row w0 p id X B0 SV n xs k f t s pa pn pc base)
  (hW:∀ w,w0.grownBy w row→WorldTG10 row w0 p id X B0 SV n xs k f t s pa pn pc w) (hO:∀ w,Below w0.heap.size w0 w→w.ownsRow B0 49 5 SV n xs∧n≤4000000∧B0≤w.heap.size∧SV.ownBlock=row∧w0.heap.size≤w.heap.size) (hL:∀ c w,Same RTG10 base c→w0.grownBy w row→(fun v w=>w.ownsRow B0 49 5 v (n+1) (xs++[.int .i64 k,.int .i64 f,.int .i64 t,.string s,.slice pa pn pc])∧∃ a c,v=.slice a (n+1) c) (c.eval (.tmp 58)) w→c.eval (.tmp 59)=.pointer (some ⟨X,1,none⟩)→∃ w',(execOp c.eval (⟨none,.store 23 (.tmp 59) (.tmp 58),0, "graph.go:131",#[⟨10,.data⟩,⟨9,.data⟩,⟨9,.chain⟩,⟨0,.phase⟩,⟨1,.phase⟩,⟨2,.phase⟩,⟨3,.phase⟩,⟨4,.phase⟩,⟨5,.phase⟩,⟨6,.phase⟩,⟨7,.phase⟩,⟨8,.phase⟩,⟨9,.phase⟩],none⟩:Oper)).run Tryz.prog w=.ok .skip w'∧Q .normal c w'):(Code.region 10 RTG10 true).wp Tryz.prog Q base w0:=by
 have hall:(List.range 11).all (fun i=>(slotOf RTG10 i).isSome)=true:=by kernel_rfl
 refine facts_lastR (A:=ancTG10) (F:=factsAt (factsTG10 row w0 p id X B0 SV n xs k f t s pa pn pc)) (Rel:=fun a b=>a.grownBy b row) (fun _ _ h=>grown_below h) (fun _ _ _ h1 h2=>grown_trans h1 h2) 11 (by kernel_rfl) (by kernel_rfl) (by kernel_rfl) (by rw [hsz];kernel_rfl) ?_ (by decide) 9 (fun i v w w' hf _ hb=>factsAt_stable (stableTG10 row w0 p id X B0 SV n xs k f t s pa pn pc) i v w w' hf hb) (fun i hi v w w'=>factsAt_stableR (stableRTG10 row w0 p id X B0 SV n xs k f t s pa pn pc) i hi v w w') ?_ ?_ ?_
 ·exact fun i hi=>Option.isSome_iff_exists.1 (List.all_eq_true.1 hall i (List.mem_range.2 hi))
 ·intro i hi hne c w hS hB hF
  exact allTG10 row w0 p id X B0 SV n xs k f t s pa pn pc Q i hi hne c w ⟨(same_eval hS (by kernel_rfl)).trans hb.t0,(same_eval hS (by kernel_rfl)).trans hb.t3,(same_eval hS (by kernel_rfl)).trans hb.t7⟩ (hW w hB) hF
 ·intro hi c w hS hB hF
  exact oTG10_9 row w0 p id X B0 SV n xs k f t s pa pn pc Q c w ⟨(same_eval hS (by kernel_rfl)).trans hb.t0,(same_eval hS (by kernel_rfl)).trans hb.t3,(same_eval hS (by kernel_rfl)).trans hb.t7⟩ (hW w (grown_below hB)) (hO w hB) hF
 ·intro c w hS hB hF
  obtain ⟨w',h1,h2⟩:=hL c w hS hB (fact_at (p:=fun v w=>w.ownsRow B0 49 5 v (n+1) (xs++[.int .i64 k,.int .i64 f,.int .i64 t,.string s,.slice pa pn pc])∧∃ a c,v=.slice a (n+1) c) (by kernel_rfl) rfl (hF 9 (by omega))) (fact_at (p:=eqv (.pointer (some ⟨X,1,none⟩))) (by kernel_rfl) rfl (hF 10 (by omega)))
  exact last_skip (by kernel_rfl) (want_none rfl) h1 h2
end Go.Proofs.YteddjlbfbpecjaaGreatDoor
