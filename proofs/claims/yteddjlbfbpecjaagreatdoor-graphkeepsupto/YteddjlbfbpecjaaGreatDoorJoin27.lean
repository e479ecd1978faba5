/- Statements of attach, in whatever order their operations are done: onto a list that is there. A relationship is put down at both its ends, whatever lies there. -/
import Derived.Test.YteddjlbfbpecjaaGreatDoorGed16
import Derived.Test.YteddjlbfbpecjaaGreatDoorJoin19
import Derived.Test.YteddjlbfbpecjaaGreatDoorJoin2
import Derived.Test.YteddjlbfbpecjaaGreatDoorJoin26
import Derived.Test.YteddjlbfbpecjaaGreatDoorJoin9
namespace Go.Proofs.YteddjlbfbpecjaaGreatDoor
open Go.RowKit Go.Shelf Go.WideShapes
set_option maxHeartbeats 4000000
set_option maxRecDepth 100000
set_option linter.unusedVariables false
set_option linter.unusedSimpArgs false
noncomputable def RAG1  : Array Oper:=regionAt Tryz.f40 1
def LAG1  : List Sig:=[⟨4,.move (.tmp 0),31,none⟩,⟨5,.nilCheck (.tmp 4),0,none⟩,⟨6,.fieldAddr 74 (.tmp 5) 1,0,none⟩,⟨7,.load 72 (.tmp 6),72,none⟩,⟨8,.fieldAddr 49 (.tmp 3) 1,0,none⟩,⟨9,.load 2 (.tmp 8),2,none⟩,⟨10,.move (.tmp 0),31,none⟩,⟨11,.nilCheck (.tmp 10),0,none⟩,⟨12,.fieldAddr 74 (.tmp 11) 1,0,none⟩,⟨13,.load 72 (.tmp 12),72,none⟩,⟨14,.fieldAddr 49 (.tmp 3) 1,0,none⟩,⟨15,.load 2 (.tmp 14),2,none⟩,⟨16,.lookup 72 (.tmp 13) (.tmp 15) false,100,none⟩,⟨17,.fieldAddr 49 (.tmp 3) 0,0,none⟩,⟨18,.load 2 (.tmp 17),2,none⟩,⟨19,.buildSlice 100 1 #[(0,.tmp 18)],100,none⟩,⟨20,.call { callee:=.builtin .append,args:=#[.tmp 16,.tmp 19],argTypes:=#[100,100] },100,none⟩]
theorem hLAG1  : (sigsOf RAG1).take LAG1.length=LAG1.map some:=by kernel_rfl
def ancAG1 (i:Nat):List Nat:=nth [] [[],[0],[1],[2],[],[4],[],[6],[7],[8],[],[10],[9,11],[],[13],[14],[12,15],[0,1,2,3,4,5,6,7,8,9,10,11,12,13,14,15,16]] i
def factsAG1 (row:Option Nat) (w0:World) (p:GP) (id k:Int) (X B0:Nat) (SV:Value) (n:Nat) (xs:List Value):List (Value→World→Prop) :=
 [eqv (.pointer (some ⟨p.g,0,none⟩)),eqv (.pointer (some ⟨p.g,0,none⟩)),eqv (.pointer (some ⟨p.g,4,none⟩)),eqv (.map (some p.f)),eqv (.pointer (some ⟨X,1,none⟩)),eqv (.int .i64 k),eqv (.pointer (some ⟨p.g,0,none⟩)),eqv (.pointer (some ⟨p.g,0,none⟩)),eqv (.pointer (some ⟨p.g,4,none⟩)),eqv (.map (some p.f)),eqv (.pointer (some ⟨X,1,none⟩)),eqv (.int .i64 k),eqv (SV),eqv (.pointer (some ⟨X,0,none⟩)),eqv (.int .i64 id),fun v w=>∃ y,v=.slice (some ⟨y,0,none⟩) 1 1∧some y≠row∧Rec w y #[.int .i64 id] 2,fun v w=>w.ownsRow B0 2 1 v (n+1) (xs++[.int .i64 id])∧(v.ownBlock=SV.ownBlock∨∃ q,v.ownBlock=some q∧w0.heap.size≤q)∧∃ a c,v=.slice a (n+1) c]
structure BaseAG1 (row:Option Nat) (w0:World) (p:GP) (id k:Int) (X B0:Nat) (SV:Value) (n:Nat) (xs:List Value) (c:Act):Prop where
 t0:c.eval (.tmp 0)=.pointer (some ⟨p.g,0,none⟩)
 t3:c.eval (.tmp 3)=.pointer (some ⟨X,0,none⟩)
structure WorldAG1 (row:Option Nat) (w0:World) (p:GP) (id k:Int) (X B0:Nat) (SV:Value) (n:Nat) (xs:List Value) (w:World):Prop where
 cm:w.cell? ⟨p.g,4,none⟩=some (.map (some p.f))
 xk:w.cell? ⟨X,1,none⟩=some (.int .i64 k)
 xi:w.cell? ⟨X,0,none⟩=some (.int .i64 id)
 lk:(Instr.lookup 72 (.map (some p.f)) (.int .i64 k) false).run Tryz.prog w=.ok SV w
 rb:∀ q,row=some q→q<w.heap.size
theorem oAG1_12 (row:Option Nat) (w0:World) (p:GP) (id k:Int) (X B0:Nat) (SV:Value) (n:Nat) (xs:List Value) (Q:Exit→Act→World→Prop) (c:Act) (w:World) (hb:BaseAG1 row w0 p id k X B0 SV n xs c) (hW:WorldAG1 row w0 p id k X B0 SV n xs w) (hF:∀ q0 ∈ ancAG1 12,factsAt (factsAG1 row w0 p id k X B0 SV n xs) q0 (val RAG1 c q0) w) :
  Does Tryz.prog RAG1 Q (factsAt (factsAG1 row w0 p id k X B0 SV n xs)) 12 c w:=by
 have ho:RAG1[12]?=some (⟨some 16,.lookup 72 (.tmp 13) (.tmp 15) false,100, "edit.go:126",#[⟨9,.data⟩,⟨11,.data⟩],none⟩:Oper):=by kernel_rfl
 have e13:c.eval (.tmp 13)=.map (some p.f):=fact_eq (by kernel_rfl) rfl (hF 9 (by decide))
 have e15:c.eval (.tmp 15)=.int .i64 k:=fact_eq (by kernel_rfl) rfl (hF 11 (by decide))
 have hw:Region.wanted (⟨some 16,.lookup 72 (.tmp 13) (.tmp 15) false,100, "edit.go:126",#[⟨9,.data⟩,⟨11,.data⟩],none⟩:Oper) (yielded RAG1 c.tmps)=true:=want_none rfl
 have ec:=evc c
 have ef:=evf c
 have lk:=hW.lk
 refine does_value ho hw (v:=SV) ?_ rfl (Below.refl _ _)
 generalize c.eval=ρ at *
 clear hF hb hW hw ho
 go_simp
theorem oAG1_15 (row:Option Nat) (w0:World) (p:GP) (id k:Int) (X B0:Nat) (SV:Value) (n:Nat) (xs:List Value) (Q:Exit→Act→World→Prop) (c:Act) (w:World) (hb:BaseAG1 row w0 p id k X B0 SV n xs c) (hW:WorldAG1 row w0 p id k X B0 SV n xs w) (hF:∀ q0 ∈ ancAG1 15,factsAt (factsAG1 row w0 p id k X B0 SV n xs) q0 (val RAG1 c q0) w) :
  Does Tryz.prog RAG1 Q (factsAt (factsAG1 row w0 p id k X B0 SV n xs)) 15 c w:=by
 have ho:RAG1[15]?=some (⟨some 19,.buildSlice 100 1 #[(0,.tmp 18)],100, "edit.go:126",#[⟨14,.data⟩],none⟩:Oper):=by kernel_rfl
 have e18:c.eval (.tmp 18)=.int .i64 id:=fact_eq (by kernel_rfl) rfl (hF 14 (by decide))
 have hw:Region.wanted (⟨some 19,.buildSlice 100 1 #[(0,.tmp 18)],100, "edit.go:126",#[⟨14,.data⟩],none⟩:Oper) (yielded RAG1 c.tmps)=true:=want_none rfl
 have ec:=evc c
 have ef:=evf c
 refine does_value ho hw (v:=.slice (some ⟨w.heap.size,0,none⟩) 1 1) (w':=w.alloc (.cells #[.int .i64 id] 2)) ?_ ⟨w.heap.size,rfl,fun h=>by have:=hW.rb _ h.symm;omega,rec_new _ _ _⟩ ((Below.refl _ _).alloc (Nat.le_refl _) _)
 generalize c.eval=ρ at *
 clear hF hb hW hw ho
 go_simp
theorem oAG1_16 (row:Option Nat) (w0:World) (p:GP) (id k:Int) (X B0:Nat) (SV:Value) (n:Nat) (xs:List Value) (Q:Exit→Act→World→Prop) (c:Act) (w:World) (hb:BaseAG1 row w0 p id k X B0 SV n xs c) (hW:WorldAG1 row w0 p id k X B0 SV n xs w) (hO:w.ownsRow B0 2 1 SV n xs∧n≤4000000∧B0≤w.heap.size∧SV.ownBlock=row∧w0.heap.size≤w.heap.size) (hF:∀ q0 ∈ ancAG1 16,factsAt (factsAG1 row w0 p id k X B0 SV n xs) q0 (val RAG1 c q0) w) :
  DoesR Tryz.prog RAG1 Q (factsAt (factsAG1 row w0 p id k X B0 SV n xs)) (fun a b=>a.grownBy b row) 16 c w:=by
 have ho:RAG1[16]?=some (⟨some 20,.call { callee:=.builtin .append,args:=#[.tmp 16,.tmp 19],argTypes:=#[100,100] },100, "edit.go:126",#[⟨12,.data⟩,⟨15,.data⟩],none⟩:Oper):=by kernel_rfl
 have e16:c.eval (.tmp 16)=SV:=fact_eq (by kernel_rfl) rfl (hF 12 (by decide))
 have f19:(fun v w=>∃ y,v=.slice (some ⟨y,0,none⟩) 1 1∧some y≠row∧Rec w y #[.int .i64 id] 2) (c.eval (.tmp 19)) w:=fact_at (by kernel_rfl) rfl (hF 15 (by decide))
 have hw:Region.wanted (⟨some 20,.call { callee:=.builtin .append,args:=#[.tmp 16,.tmp 19],argTypes:=#[100,100] },100, "edit.go:126",#[⟨12,.data⟩,⟨15,.data⟩],none⟩:Oper) (yielded RAG1 c.tmps)=true:=want_none rfl
 have ec:=evc c
 have ef:=evf c
 obtain ⟨i0,hi,hz0,hz1,hz2⟩:=info_parts Tryz.info2
 obtain ⟨y,e19,hyr,hy⟩:=f19
 obtain ⟨h1,h2,h3,h4,h5⟩:=hO
 obtain ⟨v',w',hrun,hown,hgr,_,hbl⟩:=run_append_own_at (P:=Tryz.prog) w B0 100 100 2 i0 (.int .i64 0) 1 8 Tryz.underlying100 hi hz0 hz1 hz2 rfl (by decide) SV n xs h1 ⟨y,0,none⟩ 1 1 [.int .i64 id] rfl (fun j u hj=>by
  have hadd:(⟨y,0,none⟩:Addr).add j=⟨y,j,none⟩:=by unfold Addr.add;split<;>simp_all
  rw [hadd]
  exact hy.cell j (by simpa using hj)) (by intro u hu;simp only [List.mem_cons,List.not_mem_nil,or_false] at hu;subst hu;rfl) (by unfold maxLen;omega) (by omega) h3
 obtain ⟨ua,uc,rfl⟩:=row_slice hown
 refine doesR_value ho hw (v:=.slice ua (n+1) uc) (w':=w') ?_ ⟨hown,hbl.imp (fun h=>h) fun h=>⟨_,h,h5⟩,ua,uc,rfl⟩ (h4▸hgr)
 exact exec_append e16 e19 hrun
theorem stableAG1 (row:Option Nat) (w0:World) (p:GP) (id k:Int) (X B0:Nat) (SV:Value) (n:Nat) (xs:List Value):∀ pr ∈ factsAG1 row w0 p id k X B0 SV n xs,Stable pr:=by
 unfold factsAG1
 iterate 17 (first | refine List.forall_mem_cons.2 ⟨eqv_stable _,?_⟩ | refine List.forall_mem_cons.2 ⟨fun v w w' ⟨y,h,hy,hr⟩ hb=>⟨y,h,hy,hr.below hb hr.lt⟩,?_⟩ | refine List.forall_mem_cons.2 ⟨fun v w w' ⟨h,h1,h2⟩ hb=>⟨row_keep h fun g _ hg=>hb.block g hg,h1,h2⟩,?_⟩)
 exact List.forall_mem_nil _
theorem stableRAG1 (row:Option Nat) (w0:World) (p:GP) (id k:Int) (X B0:Nat) (SV:Value) (n:Nat) (xs:List Value):∀ pr ∈ (factsAG1 row w0 p id k X B0 SV n xs).set 16 (fun _ _=>True),StableR row w0 pr:=by
 unfold factsAG1
 simp only [List.set_cons_succ,List.set_cons_zero]
 iterate 17 (first | refine List.forall_mem_cons.2 ⟨eqv_stableR _ _ _,?_⟩ | refine List.forall_mem_cons.2 ⟨fun _ _ _ _ _ _=>trivial,?_⟩ | refine List.forall_mem_cons.2 ⟨fun v w w' ⟨y,h,hy,hr⟩ _ hg=>⟨y,h,hy,hr.keep (hg.block y hr.lt hy)⟩,?_⟩)
 exact List.forall_mem_nil _
theorem uniAG1 (row:Option Nat) (w0:World) (p:GP) (id k:Int) (X B0:Nat) (SV:Value) (n:Nat) (xs:List Value) (Q:Exit→Act→World→Prop):∀ i,i<17→(fun i=>i ∉ ([12,15,16]:List Nat)→∀ c w,BaseAG1 row w0 p id k X B0 SV n xs c→WorldAG1 row w0 p id k X B0 SV n xs w→(∀ q0 ∈ ancAG1 i,factsAt (factsAG1 row w0 p id k X B0 SV n xs) q0 (val RAG1 c q0) w)→Does Tryz.prog RAG1 Q (factsAt (factsAG1 row w0 p id k X B0 SV n xs)) i c w) i:=by
 iterate 17 (refine below_succ ?_ (by
  intro hn c w hb hW hF
  first
  | exact absurd (by decide) hn
  | (have hEq:=factsL_of hLAG1 (by decide) hF
     refine does_told hLAG1 (by decide) rfl (fun _=>rfl) ?_
     obtain ⟨t0,t3⟩:=hb
     obtain ⟨cm,xk,xi,lk,rb⟩:=hW
     have ec:=evc c
     have ef:=evf c
     dsimp only [ancAG1,LAG1,factsAG1,nth,FactsL,look,eqv] at hEq ⊢
     refine .inl fun pos af=>?_
     clear hF hn
     dsimp only [Sig.oper]
     generalize c.eval=ρ at *
     go_simp
     done)))
 exact below_zero
theorem allAG1 (row:Option Nat) (w0:World) (p:GP) (id k:Int) (X B0:Nat) (SV:Value) (n:Nat) (xs:List Value) (Q:Exit→Act→World→Prop):∀ i,i<17→(fun i=>i≠16→∀ c w,BaseAG1 row w0 p id k X B0 SV n xs c→WorldAG1 row w0 p id k X B0 SV n xs w→(∀ q0 ∈ ancAG1 i,factsAt (factsAG1 row w0 p id k X B0 SV n xs) q0 (val RAG1 c q0) w)→Does Tryz.prog RAG1 Q (factsAt (factsAG1 row w0 p id k X B0 SV n xs)) i c w) i:=by
 intro i hi hne
 by_cases h12:i=12
 ·subst h12;exact fun c w=>oAG1_12 row w0 p id k X B0 SV n xs Q c w
 by_cases h15:i=15
 ·subst h15;exact fun c w=>oAG1_15 row w0 p id k X B0 SV n xs Q c w
 exact uniAG1 row w0 p id k X B0 SV n xs Q i hi (by simp [*])
theorem regionAG1 (row:Option Nat) (w0:World) (p:GP) (id k:Int) (X B0:Nat) (SV:Value) (n:Nat) (xs:List Value) (Q:Exit→Act→World→Prop) (base:Act) (hsz:base.tmps.size=38) (hb:BaseAG1 row w0 p id k X B0 SV n xs base)
  (hW:∀ w,w0.grownBy w row→WorldAG1 row w0 p id k X B0 SV n xs w) (hO:∀ w,Below w0.heap.size w0 w→w.ownsRow B0 2 1 SV n xs∧n≤4000000∧B0≤w.heap.size∧SV.ownBlock=row∧w0.heap.size≤w.heap.size) (hL:∀ c w,Same RAG1 base c→w0.grownBy w row→c.eval (.tmp 7)=.map (some p.f)→c.eval (.tmp 9)=.int .i64 k→(fun v w=>w.ownsRow B0 2 1 v (n+1) (xs++[.int .i64 id])∧(v.ownBlock=SV.ownBlock∨∃ q,v.ownBlock=some q∧w0.heap.size≤q)∧∃ a c,v=.slice a (n+1) c) (c.eval (.tmp 20)) w→∃ w',(execOp c.eval (⟨none,.mapUpdate 72 (.tmp 7) (.tmp 9) (.tmp 20),0, "edit.go:126",#[⟨3,.data⟩,⟨5,.data⟩,⟨16,.data⟩,⟨16,.chain⟩,⟨0,.phase⟩,⟨1,.phase⟩,⟨2,.phase⟩,⟨3,.phase⟩,⟨4,.phase⟩,⟨5,.phase⟩,⟨6,.phase⟩,⟨7,.phase⟩,⟨8,.phase⟩,⟨9,.phase⟩,⟨10,.phase⟩,⟨11,.phase⟩,⟨12,.phase⟩,⟨13,.phase⟩,⟨14,.phase⟩,⟨15,.phase⟩,⟨16,.phase⟩],none⟩:Oper)).run Tryz.prog w=.ok .skip w'∧Q .normal c w'):(Code.region 1 RAG1 true).wp Tryz.prog Q base w0:=by
 have hall:(List.range 17).all (fun i=>(slotOf RAG1 i).isSome)=true:=by kernel_rfl
 refine facts_lastR (A:=ancAG1) (F:=factsAt (factsAG1 row w0 p id k X B0 SV n xs)) (Rel:=fun a b=>a.grownBy b row) (fun _ _ h=>grown_below h) (fun _ _ _ h1 h2=>grown_trans h1 h2) 17 (by kernel_rfl) (by kernel_rfl) (by kernel_rfl) (by rw [hsz];kernel_rfl) ?_ (by decide) 16 (fun i v w w' hf _ hb=>factsAt_stable (stableAG1 row w0 p id k X B0 SV n xs) i v w w' hf hb) (fun i hi v w w'=>factsAt_stableR (stableRAG1 row w0 p id k X B0 SV n xs) i hi v w w') ?_ ?_ ?_
 ·exact fun i hi=>Option.isSome_iff_exists.1 (List.all_eq_true.1 hall i (List.mem_range.2 hi))
 ·intro i hi hne c w hS hB hF
  exact allAG1 row w0 p id k X B0 SV n xs Q i hi hne c w ⟨(same_eval hS (by kernel_rfl)).trans hb.t0,(same_eval hS (by kernel_rfl)).trans hb.t3⟩ (hW w hB) hF
 ·intro hi c w hS hB hF
  exact oAG1_16 row w0 p id k X B0 SV n xs Q c w ⟨(same_eval hS (by kernel_rfl)).trans hb.t0,(same_eval hS (by kernel_rfl)).trans hb.t3⟩ (hW w (grown_below hB)) (hO w hB) hF
 ·intro c w hS hB hF
  obtain ⟨w',h1,h2⟩:=hL c w hS hB (fact_at (p:=eqv (.map (some p.f))) (by kernel_rfl) rfl (hF 3 (by omega))) (fact_at (p:=eqv (.int .i64 k)) (by kernel_rfl) rfl (hF 5 (by omega))) (fact_at (p:=fun v w=>w.ownsRow B0 2 1 v (n+1) (xs++[.int .i64 id])∧(v.ownBlock=SV.ownBlock∨∃ q,v.ownBlock=some q∧w0.heap.size≤q)∧∃ a c,v=.slice a (n+1) c) (by kernel_rfl) rfl (hF 16 (by omega)))
  exact last_skip (by kernel_rfl) (want_none rfl) h1 h2
noncomputable def RAG2  : Array Oper:=regionAt Tryz.f40 2
def LAG2  : List Sig:=[⟨21,.move (.tmp 0),31,none⟩,⟨22,.nilCheck (.tmp 21),0,none⟩,⟨23,.fieldAddr 74 (.tmp 22) 2,0,none⟩,⟨24,.load 72 (.tmp 23),72,none⟩,⟨25,.fieldAddr 49 (.tmp 3) 2,0,none⟩,⟨26,.load 2 (.tmp 25),2,none⟩,⟨27,.move (.tmp 0),31,none⟩,⟨28,.nilCheck (.tmp 27),0,none⟩,⟨29,.fieldAddr 74 (.tmp 28) 2,0,none⟩,⟨30,.load 72 (.tmp 29),72,none⟩,⟨31,.fieldAddr 49 (.tmp 3) 2,0,none⟩,⟨32,.load 2 (.tmp 31),2,none⟩,⟨33,.lookup 72 (.tmp 30) (.tmp 32) false,100,none⟩,⟨34,.fieldAddr 49 (.tmp 3) 0,0,none⟩,⟨35,.load 2 (.tmp 34),2,none⟩,⟨36,.buildSlice 100 1 #[(0,.tmp 35)],100,none⟩,⟨37,.call { callee:=.builtin .append,args:=#[.tmp 33,.tmp 36],argTypes:=#[100,100] },100,none⟩]
theorem hLAG2  : (sigsOf RAG2).take LAG2.length=LAG2.map some:=by kernel_rfl
def ancAG2 (i:Nat):List Nat:=nth [] [[],[0],[1],[2],[],[4],[],[6],[7],[8],[],[10],[9,11],[],[13],[14],[12,15],[0,1,2,3,4,5,6,7,8,9,10,11,12,13,14,15,16]] i
def factsAG2 (row:Option Nat) (w0:World) (p:GP) (id k:Int) (X B0:Nat) (SV:Value) (n:Nat) (xs:List Value):List (Value→World→Prop) :=
 [eqv (.pointer (some ⟨p.g,0,none⟩)),eqv (.pointer (some ⟨p.g,0,none⟩)),eqv (.pointer (some ⟨p.g,5,none⟩)),eqv (.map (some p.t)),eqv (.pointer (some ⟨X,2,none⟩)),eqv (.int .i64 k),eqv (.pointer (some ⟨p.g,0,none⟩)),eqv (.pointer (some ⟨p.g,0,none⟩)),eqv (.pointer (some ⟨p.g,5,none⟩)),eqv (.map (some p.t)),eqv (.pointer (some ⟨X,2,none⟩)),eqv (.int .i64 k),eqv (SV),eqv (.pointer (some ⟨X,0,none⟩)),eqv (.int .i64 id),fun v w=>∃ y,v=.slice (some ⟨y,0,none⟩) 1 1∧some y≠row∧Rec w y #[.int .i64 id] 2,fun v w=>w.ownsRow B0 2 1 v (n+1) (xs++[.int .i64 id])∧(v.ownBlock=SV.ownBlock∨∃ q,v.ownBlock=some q∧w0.heap.size≤q)∧∃ a c,v=.slice a (n+1) c]
structure BaseAG2 (row:Option Nat) (w0:World) (p:GP) (id k:Int) (X B0:Nat) (SV:Value) (n:Nat) (xs:List Value) (c:Act):Prop where
 t0:c.eval (.tmp 0)=.pointer (some ⟨p.g,0,none⟩)
 t3:c.eval (.tmp 3)=.pointer (some ⟨X,0,none⟩)
structure WorldAG2 (row:Option Nat) (w0:World) (p:GP) (id k:Int) (X B0:Nat) (SV:Value) (n:Nat) (xs:List Value) (w:World):Prop where
 cm:w.cell? ⟨p.g,5,none⟩=some (.map (some p.t))
 xk:w.cell? ⟨X,2,none⟩=some (.int .i64 k)
 xi:w.cell? ⟨X,0,none⟩=some (.int .i64 id)
 lk:(Instr.lookup 72 (.map (some p.t)) (.int .i64 k) false).run Tryz.prog w=.ok SV w
 rb:∀ q,row=some q→q<w.heap.size
theorem oAG2_12 (row:Option Nat) (w0:World) (p:GP) (id k:Int) (X B0:Nat) (SV:Value) (n:Nat) (xs:List Value) (Q:Exit→Act→World→Prop) (c:Act) (w:World) (hb:BaseAG2 row w0 p id k X B0 SV n xs c) (hW:WorldAG2 row w0 p id k X B0 SV n xs w) (hF:∀ q0 ∈ ancAG2 12,factsAt (factsAG2 row w0 p id k X B0 SV n xs) q0 (val RAG2 c q0) w) :
  Does Tryz.prog RAG2 Q (factsAt (factsAG2 row w0 p id k X B0 SV n xs)) 12 c w:=by
 have ho:RAG2[12]?=some (⟨some 33,.lookup 72 (.tmp 30) (.tmp 32) false,100, "edit.go:127",#[⟨9,.data⟩,⟨11,.data⟩],none⟩:Oper):=by kernel_rfl
 have e30:c.eval (.tmp 30)=.map (some p.t):=fact_eq (by kernel_rfl) rfl (hF 9 (by decide))
 have e32:c.eval (.tmp 32)=.int .i64 k:=fact_eq (by kernel_rfl) rfl (hF 11 (by decide))
 have hw:Region.wanted (⟨some 33,.lookup 72 (.tmp 30) (.tmp 32) false,100, "edit.go:127",#[⟨9,.data⟩,⟨11,.data⟩],none⟩:Oper) (yielded RAG2 c.tmps)=true:=want_none rfl
 have ec:=evc c
 have ef:=evf c
 have lk:=hW.lk
 refine does_value ho hw (v:=SV) ?_ rfl (Below.refl _ _)
 generalize c.eval=ρ at *
 clear hF hb hW hw ho
 go_simp
theorem oAG2_15 (row:Option Nat) (w0:World) (p:GP) (id k:Int) (X B0:Nat) (SV:Value) (n:Nat) (xs:List Value) (Q:Exit→Act→World→Prop) (c:Act) (w:World) (hb:BaseAG2 row w0 p id k X B0 SV n xs c) (hW:WorldAG2 row w0 p id k X B0 SV n xs w) (hF:∀ q0 ∈ ancAG2 15,factsAt (factsAG2 row w0 p id k X B0 SV n xs) q0 (val RAG2 c q0) w) :
  Does Tryz.prog RAG2 Q (factsAt (factsAG2 row w0 p id k X B0 SV n xs)) 15 c w:=by
 have ho:RAG2[15]?=some (⟨some 36,.buildSlice 100 1 #[(0,.tmp 35)],100, "edit.go:127",#[⟨14,.data⟩],none⟩:Oper):=by kernel_rfl
 have e35:c.eval (.tmp 35)=.int .i64 id:=fact_eq (by kernel_rfl) rfl (hF 14 (by decide))
 have hw:Region.wanted (⟨some 36,.buildSlice 100 1 #[(0,.tmp 35)],100, "edit.go:127",#[⟨14,.data⟩],none⟩:Oper) (yielded RAG2 c.tmps)=true:=want_none rfl
 have ec:=evc c
 have ef:=evf c
 refine does_value ho hw (v:=.slice (some ⟨w.heap.size,0,none⟩) 1 1) (w':=w.alloc (.cells #[.int .i64 id] 2)) ?_ ⟨w.heap.size,rfl,fun h=>by have:=hW.rb _ h.symm;omega,rec_new _ _ _⟩ ((Below.refl _ _).alloc (Nat.le_refl _) _)
 generalize c.eval=ρ at *
 clear hF hb hW hw ho
 go_simp
theorem oAG2_16 (row:Option Nat) (w0:World) (p:GP) (id k:Int) (X B0:Nat) (SV:Value) (n:Nat) (xs:List Value) (Q:Exit→Act→World→Prop) (c:Act) (w:World) (hb:BaseAG2 row w0 p id k X B0 SV n xs c) (hW:WorldAG2 row w0 p id k X B0 SV n xs w) (hO:w.ownsRow B0 2 1 SV n xs∧n≤4000000∧B0≤w.heap.size∧SV.ownBlock=row∧w0.heap.size≤w.heap.size) (hF:∀ q0 ∈ ancAG2 16,factsAt (factsAG2 row w0 p id k X B0 SV n xs) q0 (val RAG2 c q0) w) :
  DoesR Tryz.prog RAG2 Q (factsAt (factsAG2 row w0 p id k X B0 SV n xs)) (fun a b=>a.grownBy b row) 16 c w:=by
 have ho:RAG2[16]?=some (⟨some 37,.call { callee:=.builtin .append,args:=#[.tmp 33,.tmp 36],argTypes:=#[100,100] },100, "edit.go:127",#[⟨12,.data⟩,⟨15,.data⟩],none⟩:Oper):=by kernel_rfl
 have e33:c.eval (.tmp 33)=SV:=fact_eq (by kernel_rfl) rfl (hF 12 (by decide))
 have f36:(fun v w=>∃ y,v=.slice (some ⟨y,0,none⟩) 1 1∧some y≠row∧Rec w y #[.int .i64 id] 2) (c.eval (.tmp 36)) w:=fact_at (by kernel_rfl) rfl (hF 15 (by decide))
 have hw:Region.wanted (⟨some 37,.call { callee:=.builtin .append,args:=#[.tmp 33,.tmp 36],argTypes:=#[100,100] },100, "edit.go:127",#[⟨12,.data⟩,⟨15,.data⟩],none⟩:Oper) (yielded RAG2 c.tmps)=true:=want_none rfl
 have ec:=evc c
 have ef:=evf c
 obtain ⟨i0,hi,hz0,hz1,hz2⟩:=info_parts Tryz.info2
 obtain ⟨y,e36,hyr,hy⟩:=f36
 obtain ⟨h1,h2,h3,h4,h5⟩:=hO
 obtain ⟨v',w',hrun,hown,hgr,_,hbl⟩:=run_append_own_at (P:=Tryz.prog) w B0 100 100 2 i0 (.int .i64 0) 1 8 Tryz.underlying100 hi hz0 hz1 hz2 rfl (by decide) SV n xs h1 ⟨y,0,none⟩ 1 1 [.int .i64 id] rfl (fun j u hj=>by
  have hadd:(⟨y,0,none⟩:Addr).add j=⟨y,j,none⟩:=by unfold Addr.add;split<;>simp_all
  rw [hadd]
  exact hy.cell j (by simpa using hj)) (by intro u hu;simp only [List.mem_cons,List.not_mem_nil,or_false] at hu;subst hu;rfl) (by unfold maxLen;omega) (by omega) h3
 obtain ⟨ua,uc,rfl⟩:=row_slice hown
 refine doesR_value ho hw (v:=.slice ua (n+1) uc) (w':=w') ?_ ⟨hown,hbl.imp (fun h=>h) fun h=>⟨_,h,h5⟩,ua,uc,rfl⟩ (h4▸hgr)
 exact exec_append e33 e36 hrun
theorem stableAG2 (row:Option Nat) (w0:World) (p:GP) (id k:Int) (X B0:Nat) (SV:Value) (n:Nat) (xs:List Value):∀ pr ∈ factsAG2 row w0 p id k X B0 SV n xs,Stable pr:=by
 unfold factsAG2
 iterate 17 (first | refine List.forall_mem_cons.2 ⟨eqv_stable _,?_⟩ | refine List.forall_mem_cons.2 ⟨fun v w w' ⟨y,h,hy,hr⟩ hb=>⟨y,h,hy,hr.below hb hr.lt⟩,?_⟩ | refine List.forall_mem_cons.2 ⟨fun v w w' ⟨h,h1,h2⟩ hb=>⟨row_keep h fun g _ hg=>hb.block g hg,h1,h2⟩,?_⟩)
 exact List.forall_mem_nil _
theorem stableRAG2 (row:Option Nat) (w0:World) (p:GP) (id k:Int) (X B0:Nat) (SV:Value) (n:Nat) (xs:List Value):∀ pr ∈ (factsAG2 row w0 p id k X B0 SV n xs).set 16 (fun _ _=>True),StableR row w0 pr:=by
 unfold factsAG2
 simp only [List.set_cons_succ,List.set_cons_zero]
 iterate 17 (first | refine List.forall_mem_cons.2 ⟨eqv_stableR _ _ _,?_⟩ | refine List.forall_mem_cons.2 ⟨fun _ _ _ _ _ _=>trivial,?_⟩ | refine List.forall_mem_cons.2 ⟨fun v w w' ⟨y,h,hy,hr⟩ _ hg=>⟨y,h,hy,hr.keep (hg.block y hr.lt hy)⟩,?_⟩)
 exact List.forall_mem_nil _
theorem uniAG2 (row:Option Nat) (w0:World) (p:GP) (id k:Int) (X B0:Nat) (SV:Value) (n:Nat) (xs:List Value) (Q:Exit→Act→World→Prop):∀ i,i<17→(fun i=>i ∉ ([12,15,16]:List Nat)→∀ c w,BaseAG2 row w0 p id k X B0 SV n xs c→WorldAG2 row w0 p id k X B0 SV n xs w→(∀ q0 ∈ ancAG2 i,factsAt (factsAG2 row w0 p id k X B0 SV n xs) q0 (val RAG2 c q0) w)→Does Tryz.prog RAG2 Q (factsAt (factsAG2 row w0 p id k X B0 SV n xs)) i c w) i:=by
 iterate 17 (refine below_succ ?_ (by
  intro hn c w hb hW hF
  first
  | exact absurd (by decide) hn
  | (have hEq:=factsL_of hLAG2 (by decide) hF
     refine does_told hLAG2 (by decide) rfl (fun _=>rfl) ?_
     obtain ⟨t0,t3⟩:=hb
     obtain ⟨cm,xk,xi,lk,rb⟩:=hW
     have ec:=evc c
     have ef:=evf c
     dsimp only [ancAG2,LAG2,factsAG2,nth,FactsL,look,eqv] at hEq ⊢
     refine .inl fun pos af=>?_
     clear hF hn
     dsimp only [Sig.oper]
     generalize c.eval=ρ at *
     go_simp
     done)))
 exact below_zero
theorem allAG2 (row:Option Nat) (w0:World) (p:GP) (id k:Int) (X B0:Nat) (SV:Value) (n:Nat) (xs:List Value) (Q:Exit→Act→World→Prop):∀ i,i<17→(fun i=>i≠16→∀ c w,BaseAG2 row w0 p id k X B0 SV n xs c→WorldAG2 row w0 p id k X B0 SV n xs w→(∀ q0 ∈ ancAG2 i,factsAt (factsAG2 row w0 p id k X B0 SV n xs) q0 (val RAG2 c q0) w)→Does Tryz.prog RAG2 Q (factsAt (factsAG2 row w0 p id k X B0 SV n xs)) i c w) i:=by
 intro i hi hne
 by_cases h12:i=12
 ·subst h12;exact fun c w=>oAG2_12 row w0 p id k X B0 SV n xs Q c w
 by_cases h15:i=15
 ·subst h15;exact fun c w=>oAG2_15 row w0 p id k X B0 SV n xs Q c w
 exact uniAG2 row w0 p id k X B0 SV n xs Q i hi (by simp [*])
theorem regionAG2 (row:Option Nat) (w0:World) (p:GP) (id k:Int) (X B0:Nat) (SV:Value) (n:Nat) (xs:List Value) (Q:Exit→Act→World→Prop) (base:Act) (hsz:base.tmps.size=38) (hb:BaseAG2 row w0 p id k X B0 SV n xs base)
  (hW:∀ w,w0.grownBy w row→WorldAG2 row w0 p id k X B0 SV n xs w) (hO:∀ w,Below w0.heap.size w0 w→w.ownsRow B0 2 1 SV n xs∧n≤4000000∧B0≤w.heap.size∧SV.ownBlock=row∧w0.heap.size≤w.heap.size) (hL:∀ c w,Same RAG2 base c→w0.grownBy w row→c.eval (.tmp 24)=.map (some p.t)→c.eval (.tmp 26)=.int .i64 k→(fun v w=>w.ownsRow B0 2 1 v (n+1) (xs++[.int .i64 id])∧(v.ownBlock=SV.ownBlock∨∃ q,v.ownBlock=some q∧w0.heap.size≤q)∧∃ a c,v=.slice a (n+1) c) (c.eval (.tmp 37)) w→∃ w',(execOp c.eval (⟨none,.mapUpdate 72 (.tmp 24) (.tmp 26) (.tmp 37),0, "edit.go:127",#[⟨3,.data⟩,⟨5,.data⟩,⟨16,.data⟩,⟨16,.chain⟩,⟨0,.phase⟩,⟨1,.phase⟩,⟨2,.phase⟩,⟨3,.phase⟩,⟨4,.phase⟩,⟨5,.phase⟩,⟨6,.phase⟩,⟨7,.phase⟩,⟨8,.phase⟩,⟨9,.phase⟩,⟨10,.phase⟩,⟨11,.phase⟩,⟨12,.phase⟩,⟨13,.phase⟩,⟨14,.phase⟩,⟨15,.phase⟩,⟨16,.phase⟩],none⟩:Oper)).run Tryz.prog w=.ok .skip w'∧Q .normal c w'):(Code.region 2 RAG2 true).wp Tryz.prog Q base w0:=by
 have hall:(List.range 17).all (fun i=>(slotOf RAG2 i).isSome)=true:=by kernel_rfl
 refine facts_lastR (A:=ancAG2) (F:=factsAt (factsAG2 row w0 p id k X B0 SV n xs)) (Rel:=fun a b=>a.grownBy b row) (fun _ _ h=>grown_below h) (fun _ _ _ h1 h2=>grown_trans h1 h2) 17 (by kernel_rfl) (by kernel_rfl) (by kernel_rfl) (by rw [hsz];kernel_rfl) ?_ (by decide) 16 (fun i v w w' hf _ hb=>factsAt_stable (stableAG2 row w0 p id k X B0 SV n xs) i v w w' hf hb) (fun i hi v w w'=>factsAt_stableR (stableRAG2 row w0 p id k X B0 SV n xs) i hi v w w') ?_ ?_ ?_
 ·exact fun i hi=>Option.isSome_iff_exists.1 (List.all_eq_true.1 hall i (List.mem_range.2 hi))
 ·intro i hi hne c w hS hB hF
  exact allAG2 row w0 p id k X B0 SV n xs Q i hi hne c w ⟨(same_eval hS (by kernel_rfl)).trans hb.t0,(same_eval hS (by kernel_rfl)).trans hb.t3⟩ (hW w hB) hF
 ·intro hi c w hS hB hF
  exact oAG2_16 row w0 p id k X B0 SV n xs Q c w ⟨(same_eval hS (by kernel_rfl)).trans hb.t0,(same_eval hS (by kernel_rfl)).trans hb.t3⟩ (hW w (grown_below hB)) (hO w hB) hF
 ·intro c w hS hB hF
  obtain ⟨w',h1,h2⟩:=hL c w hS hB (fact_at (p:=eqv (.map (some p.t))) (by kernel_rfl) rfl (hF 3 (by omega))) (fact_at (p:=eqv (.int .i64 k)) (by kernel_rfl) rfl (hF 5 (by omega))) (fact_at (p:=fun v w=>w.ownsRow B0 2 1 v (n+1) (xs++[.int .i64 id])∧(v.ownBlock=SV.ownBlock∨∃ q,v.ownBlock=some q∧w0.heap.size≤q)∧∃ a c,v=.slice a (n+1) c) (by kernel_rfl) rfl (hF 16 (by omega)))
  exact last_skip (by kernel_rfl) (want_none rfl) h1 h2
end Go.Proofs.YteddjlbfbpecjaaGreatDoor

namespace Go.Proofs.YteddjlbfbpecjaaGreatDoor
open Go.RowKit Go.Shelf
set_option linter.unusedVariables false
set_option linter.unusedSimpArgs false
attribute [local go_sem] Oper.semAt_some
theorem lists_keys {lo:Nat} {w:World} {E:List (Int × Value)} {L:List (Int × List Int)} (h:Lists lo w E L):E.map Prod.fst=L.map Prod.fst:=by
 apply List.ext_getElem?
 intro i
 rw [List.getElem?_map,List.getElem?_map]
 by_cases hi:i<L.length
 ·obtain ⟨⟨k,l⟩,hL⟩:∃ q,L[i]?=some q:=⟨_,List.getElem?_eq_getElem hi⟩
  obtain ⟨v,h1,_⟩:=h.2 i k l hL
  rw [hL,h1];rfl
 ·rw [List.getElem?_eq_none (by rw [h.1];omega),List.getElem?_eq_none (by omega)];rfl
theorem nodup_at {E:List (Int × Value)} (hd:(E.map Prod.fst).Nodup) {i j:Nat} {k:Int} {u v:Value} (hi:E[i]?=some (k,u)) (hj:E[j]?=some (k,v)):i=j:=by
 have h1:=(List.getElem?_eq_some_iff.1 hi)
 have h2:=(List.getElem?_eq_some_iff.1 hj)
 obtain ⟨l1,e1⟩:=h1
 obtain ⟨l2,e2⟩:=h2
 have hp:=List.pairwise_iff_getElem.1 hd
 rcases Nat.lt_trichotomy i j with h | h | h
 ·exact absurd (by rw [List.getElem_map,List.getElem_map,e1,e2]) (hp i j (by simpa using l1) (by simpa using l2) h)
 ·exact h
 ·exact absurd (by rw [List.getElem_map,List.getElem_map,e1,e2]) (hp j i (by simpa using l2) (by simpa using l1) h)
theorem side_look {lo:Nat} {w:World} {E:List (Int × Value)} {L:List (Int × List Int)} (h:Lists lo w E L) (hd:(L.map Prod.fst).Nodup) (hl:∀ q ∈ L,q.2.length≤3000000) (b:Nat) (k:Int) (hk:I64 k) :
  ∃ SV n xs,w.ownsRow lo 2 1 SV n xs∧n≤3000000∧(∀ W,MI W b E→(Instr.lookup 72 (.map (some b)) (.int .i64 k) false).run Tryz.prog W=.ok SV W) ∧
   ∀ v' W,MI W b E→∃ E' W3,Side E L k SV v' n xs E'∧(Instr.mapUpdate 72 (.map (some b)) (.int .i64 k) v').run Tryz.prog W=.ok () W3∧MI W3 b E'∧W3.heap.size=W.heap.size∧(∀ i,i≠b→W3.heap[i]?=W.heap[i]?)∧Below b W W3:=by
 have hdE:(E.map Prod.fst).Nodup:=by rw [lists_keys h];exact hd
 by_cases hc:∃ (j:Nat) (l:List Int),L[j]?=some (k,l)
 ·obtain ⟨j,l,hj⟩:=hc
  obtain ⟨v,h1,h2⟩:=h.2 j k l hj
  have hu:∀ (i:Nat) (p:Int × Value),E[i]?=some p→p.1=k→i=j:=fun i p hp e=>by
   obtain ⟨a,u⟩:=p
   simp only at e
   subst e
   exact nodup_at hdE hp h1
  refine ⟨v,l.length,l.map (Value.int .i64),h2,hl _ (List.mem_of_getElem? hj),fun W hW=>?_,fun v' W hW=>?_⟩
  ·refine (mi_hit (z:=.slice none 0 0) Tryz.underlying72' hW k v hk (List.mem_of_getElem? h1) ?_).2
   intro p hp e
   obtain ⟨i,hi⟩:=List.getElem?_of_mem hp
   have:=hu i p hi e
   subst this
   rw [h1] at hi
   injection hi with hi
   rw [← hi]
  ·obtain ⟨W3,g1,g2,g3,g4,g5⟩:=mi_set Tryz.underlying72' hW j k v v' hk h1 hu
   exact ⟨_,W3,.old j l hj h1 rfl rfl,g1,g2,g3,g4,g5⟩
 ·have hn:∀ q ∈ L,q.1≠k:=fun q hq e=>hc (by
   obtain ⟨j,hj⟩:=List.getElem?_of_mem hq
   exact ⟨j,q.2,by rw [hj,← e]⟩)
  have hnE:∀ p ∈ E,p.1≠k:=fun p hp e=>by
   have:p.1 ∈ L.map Prod.fst:=by rw [← lists_keys h];exact List.mem_map.2 ⟨p,hp,rfl⟩
   obtain ⟨q,hq,e2⟩:=List.mem_map.1 this
   exact hn q hq (e2.trans e)
  refine ⟨.slice none 0 0,0,[],World.ownsRow_nil _ _ _ _,by omega,fun W hW=>(mi_miss Tryz.underlying72' zero100 hW k hk hnE).2,fun v' W hW=>?_⟩
  obtain ⟨W3,g1,g2,g3,g4,g5⟩:=mi_new Tryz.underlying72' hW k v' hk hnE
  exact ⟨_,W3,.new hn rfl rfl rfl,g1,g2,g3,g4,g5⟩
theorem side_other {E E':List (Int × Value)} {L:List (Int × List Int)} {k:Int} {SV v':Value} {n:Nat} {xs Z:List Value} (hs:Side E L k SV v' n xs E') (hap:Apart (E.map Prod.snd++Z)):∀ z ∈ Z,∀ q,z.ownBlock=some q→SV.ownBlock≠some q:=by
 intro z hz q hq
 cases hs with
 | old j l h1 h2 _ _ =>
  have hm:SV ∈ E.map Prod.snd:=List.mem_map.2 ⟨_,List.mem_of_getElem? h2,rfl⟩
  exact fun e=>(List.pairwise_append.1 hap).2.2 SV hm z hz q e hq
 | new _ h2 _ _=>subst h2;simp [Value.ownBlock]
set_option maxRecDepth 100000 in
set_option maxHeartbeats 8000000 in
theorem attach_any {w:World} {p:GP} {nn nr:Int} {N R F T:List (Int × Value)} (h:GS w p nn nr N R F T) (B lo:Nat) (hok:p.Ok B) (hlo:B≤lo∧lo≤w.heap.size∧p.g<lo∧p.n<lo∧p.r<lo∧p.f<lo∧p.t<lo) (LF LT:List (Int × List Int)) (hF:Lists lo w F LF) (hT:Lists lo w T LT)
  (hdF:(LF.map Prod.fst).Nodup) (hdT:(LT.map Prod.fst).Nodup) (hap:Apart (F.map Prod.snd++T.map Prod.snd)) (hlF:∀ q ∈ LF,q.2.length≤3000000) (hlT:∀ q ∈ LT,q.2.length≤3000000) (id f t:Int) (s:ByteArray) (pa:Option Addr) (pn pc:Nat) (hf:I64 f) (ht:I64 t) :
  Calls Tryz.prog 40 #[p.val,.agg #[.int .i64 id,.int .i64 f,.int .i64 t,.string s,.slice pa pn pc]] w fun e w'=>e=.returned (.tuple #[])∧∃ F' T',GS w' p nn nr N R F' T'∧Lists lo w' F' (addTo f id LF)∧Lists lo w' T' (addTo t id LT)∧Apart (F'.map Prod.snd++T'.map Prod.snd)∧Below B w w'∧(∀ i,i<lo→i≠p.f→i≠p.t→w'.heap[i]?=w.heap[i]?)∧w.heap.size≤w'.heap.size:=by
 have HG:=hidE h
 have HOK:=hidE hok
 have HF:=hidE hF
 have HT:=hidE hT
 have HAP:=hidE hap
 have HDF:=hidE hdF
 have HDT:=hidE hdT
 have HLT:=hidE hlT
 obtain ⟨SV,n,xs,hsv,hn,hlk,hup⟩:=side_look hF hdF hlF p.f f hf
 have HSV:=hidE hsv
 have HLK:=hidE hlk
 have HUP:=hidE hup
 obtain ⟨l0,l1,u1,u2,u3,u4,u5⟩:=hlo
 clear h hok hF hT hap hdF hdT hlF hlT hsv hlk hup
 unfold GP.val
 go_enter Tryz.func40,Tryz.ntmps40
 go_upto_region 1 with fail
 generalize hW1:World.alloc _ _=W1
 have HB1:Hid (Below w.heap.size w W1):=by rw [← hW1];exact (Below.refl _ _).alloc (Nat.le_refl _) _
 have HR1:Hid (Rec W1 w.heap.size #[.int .i64 id,.int .i64 f,.int .i64 t,.string s,.slice pa pn pc] 49):=by rw [← hW1];exact rec_new _ _ _
 have hs1:w.heap.size<W1.heap.size:=by rw [← hW1];simp
 have HG1:=hidE (HG.out.below HB1.out)
 have HF1:=hidE (HF.out.below HB1.out)
 have HT1:=hidE (HT.out.below HB1.out)
 clear hW1
 have HRW:Hid (∀ W,W1.grownBy W SV.ownBlock→(∀ i,i<lo→W.heap[i]?=W1.heap[i]?)∧W.heap[w.heap.size]?=W1.heap[w.heap.size]?∧(∀ q,SV.ownBlock=some q→q<W.heap.size)):=fun W hg =>
  ⟨fun i hi=>hg.block i (by omega) fun e=>by have:=(HSV.out.lt i e.symm).1;omega,hg.block _ hs1 fun e=>by have:=(HSV.out.lt _ e.symm).2;omega,fun q hq=>by have h1:=(HSV.out.lt q hq).2;have h2:=hg.size;omega⟩
 show (Code.region 1 RAG1 true).wp _ _ _ _
 refine regionAG1 SV.ownBlock W1 p id f w.heap.size lo SV n xs _ _ rfl ⟨rfl,rfl⟩ ?_ ?_ ?_
 ·intro W hW
  obtain ⟨k1,k2,k3⟩:=HRW.out W hW
  exact ⟨(World.cell?_of_block (a:=⟨p.g,4,none⟩) (k1 _ u1)).trans HG1.out.c4,(World.cell?_of_block (a:=⟨w.heap.size,1,none⟩) k2).trans (HR1.out.cell 1 rfl),(World.cell?_of_block (a:=⟨w.heap.size,0,none⟩) k2).trans (HR1.out.cell 0 rfl),HLK.out W (HG1.out.f.block (k1 _ u4)),k3⟩
 ·intro W hW
  exact ⟨owns_block HSV.out fun q hq=>((hW.block q (by have:=(HSV.out.lt q hq).2;omega)).trans (HB1.out.block q (HSV.out.lt q hq).2)),by omega,by have:=hW.size;omega,rfl,hW.size⟩
 rintro c W2 hS hg2 e7 e9 ⟨hown,hbl,ua,uc,e20⟩
 obtain ⟨k1,k2,k3⟩:=HRW.out W2 hg2
 obtain ⟨F',W3,hside,hup,hmi,hs3,ho3,hb3⟩:=HUP.out (.slice ua (n+1) uc) W2 (HG1.out.f.block (k1 _ u4))
 refine ⟨W3,?_,?_⟩
 ·generalize c.eval=ρ at *
  clear hS hmi ho3 hb3 hown hside hg2 hbl k1 k2 k3
  go_simp
 rw [e20] at hown hbl
 rw [same_put hS [4,5,6,7,8,9,10,11,12,13,14,15,16,17,18,19,20] (by kernel_rfl)]
 obtain ⟨y4,q4⟩:∃ y,c.eval (.tmp 4)=y:=⟨_,rfl⟩
 obtain ⟨y5,q5⟩:∃ y,c.eval (.tmp 5)=y:=⟨_,rfl⟩
 obtain ⟨y6,q6⟩:∃ y,c.eval (.tmp 6)=y:=⟨_,rfl⟩
 obtain ⟨y7,q7⟩:∃ y,c.eval (.tmp 7)=y:=⟨_,rfl⟩
 obtain ⟨y8,q8⟩:∃ y,c.eval (.tmp 8)=y:=⟨_,rfl⟩
 obtain ⟨y9,q9⟩:∃ y,c.eval (.tmp 9)=y:=⟨_,rfl⟩
 obtain ⟨y10,q10⟩:∃ y,c.eval (.tmp 10)=y:=⟨_,rfl⟩
 obtain ⟨y11,q11⟩:∃ y,c.eval (.tmp 11)=y:=⟨_,rfl⟩
 obtain ⟨y12,q12⟩:∃ y,c.eval (.tmp 12)=y:=⟨_,rfl⟩
 obtain ⟨y13,q13⟩:∃ y,c.eval (.tmp 13)=y:=⟨_,rfl⟩
 obtain ⟨y14,q14⟩:∃ y,c.eval (.tmp 14)=y:=⟨_,rfl⟩
 obtain ⟨y15,q15⟩:∃ y,c.eval (.tmp 15)=y:=⟨_,rfl⟩
 obtain ⟨y16,q16⟩:∃ y,c.eval (.tmp 16)=y:=⟨_,rfl⟩
 obtain ⟨y17,q17⟩:∃ y,c.eval (.tmp 17)=y:=⟨_,rfl⟩
 obtain ⟨y18,q18⟩:∃ y,c.eval (.tmp 18)=y:=⟨_,rfl⟩
 obtain ⟨y19,q19⟩:∃ y,c.eval (.tmp 19)=y:=⟨_,rfl⟩
 obtain ⟨y20,q20⟩:∃ y,c.eval (.tmp 20)=y:=⟨_,rfl⟩
 simp only [List.foldl_cons,List.foldl_nil,q4,q5,q6,q7,q8,q9,q10,q11,q12,q13,q14,q15,q16,q17,q18,q19,q20]
 clear q4 q5 q6 q7 q8 q9 q10 q11 q12 q13 q14 q15 q16 q17 q18 q19 q20
 simp only [List.setIfInBounds_toArray,List.set_cons_succ,List.set_cons_zero]
 clear hS e7 e9 e20 hup
 obtain ⟨o1,o2,o3,o4,o5,n1,n2,n3,n4,n5,n6,n7,n8,n9,n10⟩:=HOK.out
 have HG3:Hid (GS W3 p nn nr N R F' T) :=
  ⟨HG1.out.obj.keep ((ho3 _ n3).trans (k1 _ u1)),HG1.out.n.block ((ho3 _ n6).trans (k1 _ u2)),HG1.out.r.block ((ho3 _ n8).trans (k1 _ u3)),hmi,HG1.out.t.block ((ho3 _ (Ne.symm n10)).trans (k1 _ u5))⟩
 have HR3:Hid (Rec W3 w.heap.size #[.int .i64 id,.int .i64 f,.int .i64 t,.string s,.slice pa pn pc] 49):=HR1.out.keep ((ho3 _ (by omega)).trans k2)
 have hadd:=side_add HF1.out HDF.out hside hg2 hown hbl (fun i hi=>ho3 i (by omega)) HAP.out (fun z hz q hq=>by
  obtain ⟨e,he,rfl⟩:=List.mem_map.1 hz
  obtain ⟨l,_,ho⟩:=HT1.out.entry he
  exact (ho.lt q hq).2)
 have HL3:=hidE hadd.1
 have HA3:=hidE hadd.2
 have hoth:=side_other hside HAP.out
 have HT3:Hid (Lists lo W3 T LT):=HT1.out.keep fun e he q hq hlt=>by
  obtain ⟨l,_,ho⟩:=HT1.out.entry he
  have hge:=(ho.lt q hq).1
  exact (ho3 q (by omega)).trans (hg2.block q hlt fun e2=>hoth e.2 (List.mem_map.2 ⟨e,he,rfl⟩) q hq e2.symm)
 have hs3':W1.heap.size≤W3.heap.size:=by rw [hs3];exact hg2.size
 have HK3:Hid (∀ i,i<lo→i≠p.f→W3.heap[i]?=w.heap[i]?):=fun i hi h1=>(ho3 i h1).trans ((k1 i hi).trans (HB1.out.block i (by omega)))
 have HB3:Hid (Below B w W3):=(HB1.out.mono (by omega)).trans ((grown_to hg2 (fun q hq=>by have:=(HSV.out.lt q hq).1;omega) (by omega)).trans (hb3.mono o4))
 clear hmi ho3 hb3 hs3 hg2 hown HG1 HB1 HR1 hadd hoth hside hbl k1 k2 k3 HRW HF1 HT1 HUP HLK HSV hn
 obtain ⟨SV2,n2',xs2,hsv,hn,hlk,hup⟩:=side_look HT3.out HDT.out HLT.out p.t t ht
 have HSV:=hidE hsv
 have HLK:=hidE hlk
 have HUP:=hidE hup
 clear hsv hlk hup
 go_upto_region 2 with fail
 have HRW:Hid (∀ W,W3.grownBy W SV2.ownBlock→(∀ i,i<lo→W.heap[i]?=W3.heap[i]?)∧(SV2.ownBlock≠some w.heap.size→W.heap[w.heap.size]?=W3.heap[w.heap.size]?)∧(∀ q,SV2.ownBlock=some q→q<W.heap.size)):=fun W hg =>
  ⟨fun i hi=>hg.block i (by omega) fun e=>by have:=(HSV.out.lt i e.symm).1;omega,fun hne=>hg.block _ (by omega) fun e=>hne e.symm,fun q hq=>by have h1:=(HSV.out.lt q hq).2;have h2:=hg.size;omega⟩
 have hne:SV2.ownBlock≠some w.heap.size:=fun e=>by
  obtain ⟨_,⟨g2,g3⟩ | ⟨g,cap,cur,g2,g3,g4,g5⟩⟩:=HSV.out
  ·rw [g2] at e;cases e
  ·have hg:g=w.heap.size:=by rw [g2] at e;injection e
   have hb:W3.heap[w.heap.size]?=_:=HR3.out
   rw [hg,hb] at g4
   simp at g4
 show (Code.region 2 RAG2 true).wp _ _ _ _
 refine regionAG2 SV2.ownBlock W3 p id t w.heap.size lo SV2 n2' xs2 _ _ rfl ⟨rfl,rfl⟩ ?_ ?_ ?_
 ·intro W hW
  obtain ⟨k1,k2,k3⟩:=HRW.out W hW
  exact ⟨(World.cell?_of_block (a:=⟨p.g,5,none⟩) (k1 _ u1)).trans HG3.out.c5,(World.cell?_of_block (a:=⟨w.heap.size,2,none⟩) (k2 hne)).trans (HR3.out.cell 2 rfl),(World.cell?_of_block (a:=⟨w.heap.size,0,none⟩) (k2 hne)).trans (HR3.out.cell 0 rfl),HLK.out W (HG3.out.t.block (k1 _ u5)),k3⟩
 ·intro W hW
  exact ⟨owns_block HSV.out fun q hq=>hW.block q (HSV.out.lt q hq).2,by omega,by have:=hW.size;omega,rfl,hW.size⟩
 rintro c W4 hS hg4 e7 e9 ⟨hown,hbl,va,vc,e20⟩
 obtain ⟨k1,k2,k3⟩:=HRW.out W4 hg4
 obtain ⟨T',W5,hside,hup,hmi,hs5,ho5,hb5⟩:=HUP.out (.slice va (n2'+1) vc) W4 (HG3.out.t.block (k1 _ u5))
 refine ⟨W5,?_,?_⟩
 ·generalize c.eval=ρ at *
  clear hS hmi ho5 hb5 hown hside hg4 hbl k1 k2 k3
  go_simp
 rw [e20] at hown hbl
 rw [same_put hS [21,22,23,24,25,26,27,28,29,30,31,32,33,34,35,36,37] (by kernel_rfl)]
 obtain ⟨y21,q21⟩:∃ y,c.eval (.tmp 21)=y:=⟨_,rfl⟩
 obtain ⟨y22,q22⟩:∃ y,c.eval (.tmp 22)=y:=⟨_,rfl⟩
 obtain ⟨y23,q23⟩:∃ y,c.eval (.tmp 23)=y:=⟨_,rfl⟩
 obtain ⟨y24,q24⟩:∃ y,c.eval (.tmp 24)=y:=⟨_,rfl⟩
 obtain ⟨y25,q25⟩:∃ y,c.eval (.tmp 25)=y:=⟨_,rfl⟩
 obtain ⟨y26,q26⟩:∃ y,c.eval (.tmp 26)=y:=⟨_,rfl⟩
 obtain ⟨y27,q27⟩:∃ y,c.eval (.tmp 27)=y:=⟨_,rfl⟩
 obtain ⟨y28,q28⟩:∃ y,c.eval (.tmp 28)=y:=⟨_,rfl⟩
 obtain ⟨y29,q29⟩:∃ y,c.eval (.tmp 29)=y:=⟨_,rfl⟩
 obtain ⟨y30,q30⟩:∃ y,c.eval (.tmp 30)=y:=⟨_,rfl⟩
 obtain ⟨y31,q31⟩:∃ y,c.eval (.tmp 31)=y:=⟨_,rfl⟩
 obtain ⟨y32,q32⟩:∃ y,c.eval (.tmp 32)=y:=⟨_,rfl⟩
 obtain ⟨y33,q33⟩:∃ y,c.eval (.tmp 33)=y:=⟨_,rfl⟩
 obtain ⟨y34,q34⟩:∃ y,c.eval (.tmp 34)=y:=⟨_,rfl⟩
 obtain ⟨y35,q35⟩:∃ y,c.eval (.tmp 35)=y:=⟨_,rfl⟩
 obtain ⟨y36,q36⟩:∃ y,c.eval (.tmp 36)=y:=⟨_,rfl⟩
 obtain ⟨y37,q37⟩:∃ y,c.eval (.tmp 37)=y:=⟨_,rfl⟩
 simp only [List.foldl_cons,List.foldl_nil,q21,q22,q23,q24,q25,q26,q27,q28,q29,q30,q31,q32,q33,q34,q35,q36,q37]
 clear q21 q22 q23 q24 q25 q26 q27 q28 q29 q30 q31 q32 q33 q34 q35 q36 q37
 simp only [List.setIfInBounds_toArray,List.set_cons_succ,List.set_cons_zero]
 clear hS e7 e9 e20 hup
 have HG5:Hid (GS W5 p nn nr N R F' T') :=
  ⟨HG3.out.obj.keep ((ho5 _ n4).trans (k1 _ u1)),HG3.out.n.block ((ho5 _ n7).trans (k1 _ u2)),HG3.out.r.block ((ho5 _ n9).trans (k1 _ u3)),HG3.out.f.block ((ho5 _ n10).trans (k1 _ u4)),hmi⟩
 have hap2:=apart_comm HA3.out
 have hadd:=side_add HT3.out HDT.out hside hg4 hown hbl (fun i hi=>ho5 i (by omega)) hap2 (fun z hz q hq=>by
  obtain ⟨e,he,rfl⟩:=List.mem_map.1 hz
  obtain ⟨l,_,ho⟩:=HL3.out.entry he
  exact (ho.lt q hq).2)
 have hoth:=side_other hside hap2
 have HF5:Hid (Lists lo W5 F' (addTo f id LF)):=HL3.out.keep fun e he q hq hlt=>by
  obtain ⟨l,_,ho⟩:=HL3.out.entry he
  have hge:=(ho.lt q hq).1
  exact (ho5 q (by omega)).trans (hg4.block q hlt fun e2=>hoth e.2 (List.mem_map.2 ⟨e,he,rfl⟩) q hq e2.symm)
 have HT5:Hid (Lists lo W5 T' (addTo t id LT)):=hadd.1
 have HA5:Hid (Apart (F'.map Prod.snd++T'.map Prod.snd)):=apart_comm hadd.2
 have HB5:Hid (Below B w W5):=HB3.out.trans ((grown_to hg4 (fun q hq=>by have:=(HSV.out.lt q hq).1;omega) (by omega)).trans (hb5.mono o5))
 have HK5:Hid (∀ i,i<lo→i≠p.f→i≠p.t→W5.heap[i]?=w.heap[i]?):=fun i hi h1 h2=>(ho5 i h2).trans ((k1 i hi).trans (HK3.out i hi h1))
 have hs9:w.heap.size≤W5.heap.size:=by have:=hg4.size;omega
 clear hmi ho5 hb5 hs5 hg4 hown hadd hoth hside hbl
 go_wp2_with fail
 exact bodyPost_end (v:=.tuple #[]) (by simp [results,Tryz.results40,go_sem]) rfl ⟨rfl,_,_,HG5.out,HF5.out,HT5.out,HA5.out,HB5.out,HK5.out,hs9⟩
end Go.Proofs.YteddjlbfbpecjaaGreatDoor

