/- Where graphs lie, seen from further up. Statements of attach, in whatever order their operations are done: onto a list that is there. -/
import Derived.Test.YteddjlbfbpecjaaGreatDoorGtl2
import Derived.Test.YteddjlbfbpecjaaGreatDoorGed16
import Derived.Test.YteddjlbfbpecjaaGreatDoorJoin21
import Derived.Test.YteddjlbfbpecjaaGreatDoorJoin7
namespace Go.Proofs.YteddjlbfbpecjaaGreatDoor
open Go.RowKit Go.Shelf
set_option linter.unusedVariables false
theorem NodeAt.mono {B B':Nat} (hB:B≤B') {w:World} {bl off:Nat} {n:NodeP} (h:NodeAt B w bl off n):NodeAt B' w bl off n:=by
 obtain ⟨la,lc,pv,hc,hs,hk,hp⟩:=h
 exact ⟨la,lc,pv,hc,hs,hk.mono hB,hp.mono hB⟩
theorem RelAt.mono {B B':Nat} (hB:B≤B') {w:World} {bl off:Nat} {n:RelP} (h:RelAt B w bl off n):RelAt B' w bl off n:=by
 obtain ⟨pv,hc,hs,hp⟩:=h
 exact ⟨pv,hc,hs,hp.mono hB⟩
theorem NodesLie.mono {B B':Nat} (hB:B≤B') {w:World} {v:Value} {ns:List NodeP} (h:NodesLie B w v ns):NodesLie B' w v ns:=by
 obtain ⟨a,c,e,h1,h2,h3⟩:=h
 exact ⟨a,c,e,h1,h2,h3.imp id fun ⟨bl,off,e,hl,hc⟩=>⟨bl,off,e,by omega,fun i x hi=>(hc i x hi).mono hB⟩⟩
theorem RelsLie.mono {B B':Nat} (hB:B≤B') {w:World} {v:Value} {ns:List RelP} (h:RelsLie B w v ns):RelsLie B' w v ns:=by
 obtain ⟨a,c,e,h1,h2,h3⟩:=h
 exact ⟨a,c,e,h1,h2,h3.imp id fun ⟨bl,off,e,hl,hc⟩=>⟨bl,off,e,by omega,fun i x hi=>(hc i x hi).mono hB⟩⟩
theorem GraphLies.mono {B B':Nat} (hB:B≤B') {w:World} {v:Value} {g:GraphP} (h:GraphLies B w v g):GraphLies B' w v g:=by
 obtain ⟨na,nc,ra,rc,e,h1,h2⟩:=h
 exact ⟨na,nc,ra,rc,e,h1.mono hB,h2.mono hB⟩
end Go.Proofs.YteddjlbfbpecjaaGreatDoor

namespace Go.Proofs.YteddjlbfbpecjaaGreatDoor
open Go.RowKit Go.Shelf Go.WideShapes
set_option maxHeartbeats 4000000
set_option maxRecDepth 100000
set_option linter.unusedVariables false
set_option linter.unusedSimpArgs false
noncomputable def RAG1  : Array Oper:=regionAt Tryz.f40 1
def LAG1  : List Sig:=[⟨4,.move (.tmp 0),31,none⟩,⟨5,.nilCheck (.tmp 4),0,none⟩,⟨6,.fieldAddr 74 (.tmp 5) 1,0,none⟩,⟨7,.load 72 (.tmp 6),72,none⟩,⟨8,.fieldAddr 49 (.tmp 3) 1,0,none⟩,⟨9,.load 2 (.tmp 8),2,none⟩,⟨10,.move (.tmp 0),31,none⟩,⟨11,.nilCheck (.tmp 10),0,none⟩,⟨12,.fieldAddr 74 (.tmp 11) 1,0,none⟩,⟨13,.load 72 (.tmp 12),72,none⟩,⟨14,.fieldAddr 49 (.tmp 3) 1,0,none⟩,⟨15,.load 2 (.tmp 14),2,none⟩,⟨16,.lookup 72 (.tmp 13) (.tmp 15) false,100,none⟩,⟨17,.fieldAddr 49 (.tmp 3) 0,0,none⟩,⟨18,.load 2 (.tmp 17),2,none⟩,⟨19,.buildSlice 100 1 #[(0,.tmp 18)],100,none⟩,⟨20,.call { callee:=.builtin .append,args:=#[.tmp 16,.tmp 19],argTypes:=#[100,100] },100,none⟩]
theorem hLAG1  : (sigsOf RAG1).take LAG1.length=LAG1.map some:=by kernel_rfl
def ancAG1 (i:Nat):List Nat:=nth [] [[],[0],[1],[2],[],[4],[],[6],[7],[8],[],[10],[9,11],[],[13],[14],[12,15],[0,1,2,3,4,5,6,7,8,9,10,11,12,13,14,15,16]] i
def factsAG1 (row:Option Nat) (w0:World) (p:GP) (id k:Int) (X B0:Nat) (SV:Value) (n:Nat) (xs:List Value):List (Value→World→Prop) :=
 [eqv (.pointer (some ⟨p.g,0,none⟩)),eqv (.pointer (some ⟨p.g,0,none⟩)),eqv (.pointer (some ⟨p.g,4,none⟩)),eqv (.map (some p.f)),eqv (.pointer (some ⟨X,1,none⟩)),eqv (.int .i64 k),eqv (.pointer (some ⟨p.g,0,none⟩)),eqv (.pointer (some ⟨p.g,0,none⟩)),eqv (.pointer (some ⟨p.g,4,none⟩)),eqv (.map (some p.f)),eqv (.pointer (some ⟨X,1,none⟩)),eqv (.int .i64 k),eqv (SV),eqv (.pointer (some ⟨X,0,none⟩)),eqv (.int .i64 id),fun v w=>∃ y,v=.slice (some ⟨y,0,none⟩) 1 1∧some y≠row∧Rec w y #[.int .i64 id] 2,fun v w=>w.ownsRow B0 2 1 v (n+1) (xs++[.int .i64 id])∧(v.ownBlock=SV.ownBlock∨∃ q,v.ownBlock=some q∧w0.heap.size≤q)∧∃ a c,v=.slice a (n+1) c]
structure BaseAG1 (row:Option Nat) (w0:World) (p:GP) (id k:Int) (X B0:Nat) (SV:Value) (n:Nat) (xs:List Value) (c:Act):Prop where
 t0:c.eval (.tmp 0)=.pointer (some ⟨p.g,0,none⟩)
 t3:c.eval (.tmp 3)=.pointer (some ⟨X,0,none⟩)
structure WorldAG1 (row:Option Nat) (w0:World) (p:GP) (id k:Int) (X B0:Nat) (SV:Value) (n:Nat) (xs:List Value) (w:World):Prop where
 cm:w.cell? ⟨p.g,4,none⟩=some (.map (some p.f))
 xk:w.cell? ⟨X,1,none⟩=some (.int .i64 k)
 xi:w.cell? ⟨X,0,none⟩=some (.int .i64 id)
 lk:(Instr.lookup 72 (.map (some p.f)) (.int .i64 k) false).run Tryz.prog w=.ok SV w
 rb:∀ q,row=some q→q<w.heap.size
theorem oAG1_12 (row:Option Nat) (w0:World) (p:GP) (id k:Int) (X B0:Nat) (SV:Value) (n:Nat) (xs:List Value) (Q:Exit→Act→World→Prop) (c:Act) (w:World) (hb:BaseAG1 row w0 p id k X B0 SV n xs c) (hW:WorldAG1 row w0 p id k X B0 SV n xs w) (hF:∀ q0 ∈ ancAG1 12,factsAt (factsAG1 row w0 p id k X B0 SV n xs) q0 (val RAG1 c q0) w) :
  Does Tryz.prog RAG1 Q (factsAt (factsAG1 row w0 p id k X B0 SV n xs)) 12 c w:=by
 have ho:RAG1[12]?=some (⟨some 16,.lookup 72 (.tmp 13) (.tmp 15) false,100, "edit.go:126",#[⟨9,.data⟩,⟨11,.data⟩],none⟩:Oper):=by kernel_rfl
 have e13:c.eval (.tmp 13)=.map (some p.f):=fact_eq (by kernel_rfl) rfl (hF 9 (by decide))
 have e15:c.eval (.tmp 15)=.int .i64 k:=fact_eq (by kernel_rfl) rfl (hF 11 (by decide))
 have hw:Region.wanted (⟨some 16,.lookup 72 (.tmp 13) (.tmp 15) false,100, "edit.go:126",#[⟨9,.data⟩,⟨11,.data⟩],none⟩:Oper) (yielded RAG1 c.tmps)=true:=want_none rfl
 have ec:=evc c
 have ef:=evf c
 have lk:=hW.lk
 refine does_value ho hw (v:=SV) ?_ rfl (Below.refl _ _)
 generalize c.eval=ρ at *
 clear hF hb hW hw ho
 go_simp
theorem oAG1_15 (row:Option Nat) (w0:World) (p:GP) (id k:Int) (X B0:Nat) (SV:Value) (n:Nat) (xs:List Value) (Q:Exit→Act→World→Prop) (c:Act) (w:World) (hb:BaseAG1 row w0 p id k X B0 SV n xs c) (hW:WorldAG1 row w0 p id k X B0 SV n xs w) (hF:∀ q0 ∈ ancAG1 15,factsAt (factsAG1 row w0 p id k X B0 SV n xs) q0 (val RAG1 c q0) w) :
  Does Tryz.prog RAG1 Q (factsAt (factsAG1 row w0 p id k X B0 SV n xs)) 15 c w:=by
 have ho:RAG1[15]?=some (⟨some 19,.buildSlice 100 1 #[(0,.tmp 18)],100, "edit.go:126",#[⟨14,.data⟩],none⟩:Oper):=by kernel_rfl
 have e18:c.eval (.tmp 18)=.int .i64 id:=fact_eq (by kernel_rfl) rfl (hF 14 (by decide))
 have hw:Region.wanted (⟨some 19,.buildSlice 100 1 #[(0,.tmp 18)],100, "edit.go:126",#[⟨14,.data⟩],none⟩:Oper) (yielded RAG1 c.tmps)=true:=want_none rfl
 have ec:=evc c
 have ef:=evf c
 refine does_value ho hw (v:=.slice (some ⟨w.heap.size,0,none⟩) 1 1) (w':=w.alloc (.cells #[.int .i64 id] 2)) ?_ ⟨w.heap.size,rfl,fun h=>by have:=hW.rb _ h.symm;omega,rec_new _ _ _⟩ ((Below.refl _ _).alloc (Nat.le_refl _) _)
 generalize c.eval=ρ at *
 clear hF hb hW hw ho
 go_simp
theorem oAG1_16 (row:Option Nat) (w0:World) (p:GP) (id k:Int) (X B0:Nat) (SV:Value) (n:Nat) (xs:List Value) (Q:Exit→Act→World→Prop) (c:Act) (w:World) (hb:BaseAG1 row w0 p id k X B0 SV n xs c) (hW:WorldAG1 row w0 p id k X B0 SV n xs w) (hO:w.ownsRow B0 2 1 SV n xs∧n≤4000000∧B0≤w.heap.size∧SV.ownBlock=row∧w0.heap.size≤w.heap.size) (hF:∀ q0 ∈ ancAG1 16,factsAt (factsAG1 row w0 p id k X B0 SV n xs) q0 (val RAG1 c q0) w) :
  DoesR Tryz.prog RAG1 Q (factsAt (factsAG1 row w0 p id k X B0 SV n xs)) (fun a b=>a.grownBy b row) 16 c w:=by
 have ho:RAG1[16]?=some (⟨some 20,.call { callee:=.builtin .append,args:=#[.tmp 16,.tmp 19],argTypes:=#[100,100] },100, "edit.go:126",#[⟨12,.data⟩,⟨15,.data⟩],none⟩:Oper):=by kernel_rfl
 have e16:c.eval (.tmp 16)=SV:=fact_eq (by kernel_rfl) rfl (hF 12 (by decide))
 have f19:(fun v w=>∃ y,v=.slice (some ⟨y,0,none⟩) 1 1∧some y≠row∧Rec w y #[.int .i64 id] 2) (c.eval (.tmp 19)) w:=fact_at (by kernel_rfl) rfl (hF 15 (by decide))
 have hw:Region.wanted (⟨some 20,.call { callee:=.builtin .append,args:=#[.tmp 16,.tmp 19],argTypes:=#[100,100] },100, "edit.go:126",#[⟨12,.data⟩,⟨15,.data⟩],none⟩:Oper) (yielded RAG1 c.tmps)=true:=want_none rfl
 have ec:=evc c
 have ef:=evf c
 obtain ⟨i0,hi,hz0,hz1,hz2⟩:=info_parts Tryz.info2
 obtain ⟨y,e19,hyr,hy⟩:=f19
 obtain ⟨h1,h2,h3,h4,h5⟩:=hO
 obtain ⟨v',w',hrun,hown,hgr,_,hbl⟩:=run_append_own_at (P:=Tryz.prog) w B0 100 100 2 i0 (.int .i64 0) 1 8 Tryz.underlying100 hi hz0 hz1 hz2 rfl (by decide) SV n xs h1 ⟨y,0,none⟩ 1 1 [.int .i64 id] rfl (fun j u hj=>by
  have hadd:(⟨y,0,none⟩:Addr).add j=⟨y,j,none⟩:=by unfold Addr.add;split<;>simp_all
  rw [hadd]
  exact hy.cell j (by simpa using hj)) (by intro u hu;simp only [List.mem_cons,List.not_mem_nil,or_false] at hu;subst hu;rfl) (by unfold maxLen;omega) (by omega) h3
 obtain ⟨ua,uc,rfl⟩:=row_slice hown
 refine doesR_value ho hw (v:=.slice ua (n+1) uc) (w':=w') ?_ ⟨hown,hbl.imp (fun h=>h) fun h=>⟨_,h,h5⟩,ua,uc,rfl⟩ (h4▸hgr)
 exact exec_append e16 e19 hrun
theorem stableAG1 (row:Option Nat) (w0:World) (p:GP) (id k:Int) (X B0:Nat) (SV:Value) (n:Nat) (xs:List Value):∀ pr ∈ factsAG1 row w0 p id k X B0 SV n xs,Stable pr:=by
 unfold factsAG1
 iterate 17 (first | refine List.forall_mem_cons.2 ⟨eqv_stable _,?_⟩ | refine List.forall_mem_cons.2 ⟨fun v w w' ⟨y,h,hy,hr⟩ hb=>⟨y,h,hy,hr.below hb hr.lt⟩,?_⟩ | refine List.forall_mem_cons.2 ⟨fun v w w' ⟨h,h1,h2⟩ hb=>⟨row_keep h fun g _ hg=>hb.block g hg,h1,h2⟩,?_⟩)
 exact List.forall_mem_nil _
theorem stableRAG1 (row:Option Nat) (w0:World) (p:GP) (id k:Int) (X B0:Nat) (SV:Value) (n:Nat) (xs:List Value):∀ pr ∈ (factsAG1 row w0 p id k X B0 SV n xs).set 16 (fun _ _=>True),StableR row w0 pr:=by
 unfold factsAG1
 simp only [List.set_cons_succ,List.set_cons_zero]
 iterate 17 (first | refine List.forall_mem_cons.2 ⟨eqv_stableR _ _ _,?_⟩ | refine List.forall_mem_cons.2 ⟨fun _ _ _ _ _ _=>trivial,?_⟩ | refine List.forall_mem_cons.2 ⟨fun v w w' ⟨y,h,hy,hr⟩ _ hg=>⟨y,h,hy,hr.keep (hg.block y hr.lt hy)⟩,?_⟩)
 exact List.forall_mem_nil _
theorem uniAG1 (row:Option Nat) (w0:World) (p:GP) (id k:Int) (X B0:Nat) (SV:Value) (n:Nat) (xs:List Value) (Q:Exit→Act→World→Prop):∀ i,i<17→(fun i=>i ∉ ([12,15,16]:List Nat)→∀ c w,BaseAG1 row w0 p id k X B0 SV n xs c→WorldAG1 row w0 p id k X B0 SV n xs w→(∀ q0 ∈ ancAG1 i,factsAt (factsAG1 row w0 p id k X B0 SV n xs) q0 (val RAG1 c q0) w)→Does Tryz.prog RAG1 Q (factsAt (factsAG1 row w0 p id k X B0 SV n xs)) i c w) i:=by
 iterate 17 (refine below_succ ?_ (by
  intro hn c w hb hW hF
  first
  | exact absurd (by decide) hn
  | (have hEq:=factsL_of hLAG1 (by decide) hF
     refine does_told hLAG1 (by decide) rfl (fun _=>rfl) ?_
     obtain ⟨t0,t3⟩:=hb
     obtain ⟨cm,xk,xi,lk,rb⟩:=hW
     have ec:=evc c
     have ef:=evf c
     dsimp only [ancAG1,LAG1,factsAG1,nth,FactsL,look,eqv] at hEq ⊢
     refine .inl fun pos af=>?_
     clear hF hn
     dsimp only [Sig.oper]
     generalize c.eval=ρ at *
     go_simp
     done)))
 exact below_zero
theorem allAG1 (row:Option Nat) (w0:World) (p:GP) (id k:Int) (X B0:Nat) (SV:Value) (n:Nat) (xs:List Value) (Q:Exit→Act→World→Prop):∀ i,i<17→(fun i=>i≠16→∀ c w,BaseAG1 row w0 p id k X B0 SV n xs c→WorldAG1 row w0 p id k X B0 SV n xs w→(∀ q0 ∈ ancAG1 i,factsAt (factsAG1 row w0 p id k X B0 SV n xs) q0 (val RAG1 c q0) w)→Does Tryz.prog RAG1 Q (factsAt (factsAG1 row w0 p id k X B0 SV n xs)) i c w) i:=by
 intro i hi hne
 by_cases h12:i=12
 ·subst h12;exact fun c w=>oAG1_12 row w0 p id k X B0 SV n xs Q c w
 by_cases h15:i=15
 ·subst h15;exact fun c w=>oAG1_15 row w0 p id k X B0 SV n xs Q c w
 exact uniAG1 row w0 p id k X B0 SV n xs Q i hi (by simp [*])
theorem regionAG1 (row:Option Nat) (w0:World) (p:GP) (id k:Int) (X B0:Nat) (SV:Value) (n:Nat) (xs:List Value) (Q:Exit→Act→World→Prop) (base:Act) (hsz:base.tmps.size=38) (hb:BaseAG1 row w0 p id k X B0 SV n xs base)
  (hW:∀ w,w0.grownBy w row→WorldAG1 row w0 p id k X B0 SV n xs w) (hO:∀ w,Below w0.heap.size w0 w→w.ownsRow B0 2 1 SV n xs∧n≤4000000∧B0≤w.heap.size∧SV.ownBlock=row∧w0.heap.size≤w.heap.size) (hL:∀ c w,Same RAG1 base c→w0.grownBy w row→c.eval (.tmp 7)=.map (some p.f)→c.eval (.tmp 9)=.int .i64 k→(fun v w=>w.ownsRow B0 2 1 v (n+1) (xs++[.int .i64 id])∧(v.ownBlock=SV.ownBlock∨∃ q,v.ownBlock=some q∧w0.heap.size≤q)∧∃ a c,v=.slice a (n+1) c) (c.eval (.tmp 20)) w→∃ w',(execOp c.eval (⟨none,.mapUpdate 72 (.tmp 7) (.tmp 9) (.tmp 20),0, "edit.go:126",#[⟨3,.data⟩,⟨5,.data⟩,⟨16,.data⟩,⟨16,.chain⟩,⟨0,.phase⟩,⟨1,.phase⟩,⟨2,.phase⟩,⟨3,.phase⟩,⟨4,.phase⟩,⟨5,.phase⟩,⟨6,.phase⟩,⟨7,.phase⟩,⟨8,.phase⟩,⟨9,.phase⟩,⟨10,.phase⟩,⟨11,.phase⟩,⟨12,.phase⟩,⟨13,.phase⟩,⟨14,.phase⟩,⟨15,.phase⟩,⟨16,.phase⟩],none⟩:Oper)).run Tryz.prog w=.ok .skip w'∧Q .normal c w'):(Code.region 1 RAG1 true).wp Tryz.prog Q base w0:=by
 have hall:(List.range 17).all (fun i=>(slotOf RAG1 i).isSome)=true:=by kernel_rfl
 refine facts_lastR (A:=ancAG1) (F:=factsAt (factsAG1 row w0 p id k X B0 SV n xs)) (Rel:=fun a b=>a.grownBy b row) (fun _ _ h=>grown_below h) (fun _ _ _ h1 h2=>grown_trans h1 h2) 17 (by kernel_rfl) (by kernel_rfl) (by kernel_rfl) (by rw [hsz];kernel_rfl) ?_ (by decide) 16 (fun i v w w' hf _ hb=>factsAt_stable (stableAG1 row w0 p id k X B0 SV n xs) i v w w' hf hb) (fun i hi v w w'=>factsAt_stableR (stableRAG1 row w0 p id k X B0 SV n xs) i hi v w w') ?_ ?_ ?_
 ·exact fun i hi=>Option.isSome_iff_exists.1 (List.all_eq_true.1 hall i (List.mem_range.2 hi))
 ·intro i hi hne c w hS hB hF
  exact allAG1 row w0 p id k X B0 SV n xs Q i hi hne c w ⟨(same_eval hS (by kernel_rfl)).trans hb.t0,(same_eval hS (by kernel_rfl)).trans hb.t3⟩ (hW w hB) hF
 ·intro hi c w hS hB hF
  exact oAG1_16 row w0 p id k X B0 SV n xs Q c w ⟨(same_eval hS (by kernel_rfl)).trans hb.t0,(same_eval hS (by kernel_rfl)).trans hb.t3⟩ (hW w (grown_below hB)) (hO w hB) hF
 ·intro c w hS hB hF
  obtain ⟨w',h1,h2⟩:=hL c w hS hB (fact_at (p:=eqv (.map (some p.f))) (by kernel_rfl) rfl (hF 3 (by omega))) (fact_at (p:=eqv (.int .i64 k)) (by kernel_rfl) rfl (hF 5 (by omega))) (fact_at (p:=fun v w=>w.ownsRow B0 2 1 v (n+1) (xs++[.int .i64 id])∧(v.ownBlock=SV.ownBlock∨∃ q,v.ownBlock=some q∧w0.heap.size≤q)∧∃ a c,v=.slice a (n+1) c) (by kernel_rfl) rfl (hF 16 (by omega)))
  exact last_skip (by kernel_rfl) (want_none rfl) h1 h2
noncomputable def RAG2  : Array Oper:=regionAt Tryz.f40 2
def LAG2  : List Sig:=[⟨21,.move (.tmp 0),31,none⟩,⟨22,.nilCheck (.tmp 21),0,none⟩,⟨23,.fieldAddr 74 (.tmp 22) 2,0,none⟩,⟨24,.load 72 (.tmp 23),72,none⟩,⟨25,.fieldAddr 49 (.tmp 3) 2,0,none⟩,⟨26,.load 2 (.tmp 25),2,none⟩,⟨27,.move (.tmp 0),31,none⟩,⟨28,.nilCheck (.tmp 27),0,none⟩,⟨29,.fieldAddr 74 (.tmp 28) 2,0,none⟩,⟨30,.load 72 (.tmp 29),72,none⟩,⟨31,.fieldAddr 49 (.tmp 3) 2,0,none⟩,⟨32,.load 2 (.tmp 31),2,none⟩,⟨33,.lookup 72 (.tmp 30) (.tmp 32) false,100,none⟩,⟨34,.fieldAddr 49 (.tmp 3) 0,0,none⟩,⟨35,.load 2 (.tmp 34),2,none⟩,⟨36,.buildSlice 100 1 #[(0,.tmp 35)],100,none⟩,⟨37,.call { callee:=.builtin .append,args:=#[.tmp 33,.tmp 36],argTypes:=#[100,100] },100,none⟩]
theorem hLAG2  : (sigsOf RAG2).take LAG2.length=LAG2.map some:=by kernel_rfl
def ancAG2 (i:Nat):List Nat:=nth [] [[],[0],[1],[2],[],[4],[],[6],[7],[8],[],[10],[9,11],[],[13],[14],[12,15],[0,1,2,3,4,5,6,7,8,9,10,11,12,13,14,15,16]] i
def factsAG2 (row:Option Nat) (w0:World) (p:GP) (id k:Int) (X B0:Nat) (SV:Value) (n:Nat) (xs:List Value):List (Value→World→Prop) :=
 [eqv (.pointer (some ⟨p.g,0,none⟩)),eqv (.pointer (some ⟨p.g,0,none⟩)),eqv (.pointer (some ⟨p.g,5,none⟩)),eqv (.map (some p.t)),eqv (.pointer (some ⟨X,2,none⟩)),eqv (.int .i64 k),eqv (.pointer (some ⟨p.g,0,none⟩)),eqv (.pointer (some ⟨p.g,0,none⟩)),eqv (.pointer (some ⟨p.g,5,none⟩)),eqv (.map (some p.t)),eqv (.pointer (some ⟨X,2,none⟩)),eqv (.int .i64 k),eqv (SV),eqv (.pointer (some ⟨X,0,none⟩)),eqv (.int .i64 id),fun v w=>∃ y,v=.slice (some ⟨y,0,none⟩) 1 1∧some y≠row∧Rec w y #[.int .i64 id] 2,fun v w=>w.ownsRow B0 2 1 v (n+1) (xs++[.int .i64 id])∧(v.ownBlock=SV.ownBlock∨∃ q,v.ownBlock=some q∧w0.heap.size≤q)∧∃ a c,v=.slice a (n+1) c]
structure BaseAG2 (row:Option Nat) (w0:World) (p:GP) (id k:Int) (X B0:Nat) (SV:Value) (n:Nat) (xs:List Value) (c:Act):Prop where
 t0:c.eval (.tmp 0)=.pointer (some ⟨p.g,0,none⟩)
 t3:c.eval (.tmp 3)=.pointer (some ⟨X,0,none⟩)
structure WorldAG2 (row:Option Nat) (w0:World) (p:GP) (id k:Int) (X B0:Nat) (SV:Value) (n:Nat) (xs:List Value) (w:World):Prop where
 cm:w.cell? ⟨p.g,5,none⟩=some (.map (some p.t))
 xk:w.cell? ⟨X,2,none⟩=some (.int .i64 k)
 xi:w.cell? ⟨X,0,none⟩=some (.int .i64 id)
 lk:(Instr.lookup 72 (.map (some p.t)) (.int .i64 k) false).run Tryz.prog w=.ok SV w
 rb:∀ q,row=some q→q<w.heap.size
theorem oAG2_12 (row:Option Nat) (w0:World) (p:GP) (id k:Int) (X B0:Nat) (SV:Value) (n:Nat) (xs:List Value) (Q:Exit→Act→World→Prop) (c:Act) (w:World) (hb:BaseAG2 row w0 p id k X B0 SV n xs c) (hW:WorldAG2 row w0 p id k X B0 SV n xs w) (hF:∀ q0 ∈ ancAG2 12,factsAt (factsAG2 row w0 p id k X B0 SV n xs) q0 (val RAG2 c q0) w) :
  Does Tryz.prog RAG2 Q (factsAt (factsAG2 row w0 p id k X B0 SV n xs)) 12 c w:=by
 have ho:RAG2[12]?=some (⟨some 33,.lookup 72 (.tmp 30) (.tmp 32) false,100, "edit.go:127",#[⟨9,.data⟩,⟨11,.data⟩],none⟩:Oper):=by kernel_rfl
 have e30:c.eval (.tmp 30)=.map (some p.t):=fact_eq (by kernel_rfl) rfl (hF 9 (by decide))
 have e32:c.eval (.tmp 32)=.int .i64 k:=fact_eq (by kernel_rfl) rfl (hF 11 (by decide))
 have hw:Region.wanted (⟨some 33,.lookup 72 (.tmp 30) (.tmp 32) false,100, "edit.go:127",#[⟨9,.data⟩,⟨11,.data⟩],none⟩:Oper) (yielded RAG2 c.tmps)=true:=want_none rfl
 have ec:=evc c
 have ef:=evf c
 have lk:=hW.lk
 refine does_value ho hw (v:=SV) ?_ rfl (Below.refl _ _)
 generalize c.eval=ρ at *
 clear hF hb hW hw ho
 go_simp
theorem oAG2_15 (row:Option Nat) (w0:World) (p:GP) (id k:Int) (X B0:Nat) (SV:Value) (n:Nat) (xs:List Value) (Q:Exit→Act→World→Prop) (c:Act) (w:World) (hb:BaseAG2 row w0 p id k X B0 SV n xs c) (hW:WorldAG2 row w0 p id k X B0 SV n xs w) (hF:∀ q0 ∈ ancAG2 15,factsAt (factsAG2 row w0 p id k X B0 SV n xs) q0 (val RAG2 c q0) w) :
  Does Tryz.prog RAG2 Q (factsAt (factsAG2 row w0 p id k X B0 SV n xs)) 15 c w:=by
 have ho:RAG2[15]?=some (⟨some 36,.buildSlice 100 1 #[(0,.tmp 35)],100, "edit.go:127",#[⟨14,.data⟩],none⟩:Oper):=by kernel_rfl
 have e35:c.eval (.tmp 35)=.int .i64 id:=fact_eq (by kernel_rfl) rfl (hF 14 (by decide))
 have hw:Region.wanted (⟨some 36,.buildSlice 100 1 #[(0,.tmp 35)],100, "edit.go:127",#[⟨14,.data⟩],none⟩:Oper) (yielded RAG2 c.tmps)=true:=want_none rfl
 have ec:=evc c
 have ef:=evf c
 refine does_value ho hw (v:=.slice (some ⟨w.heap.size,0,none⟩) 1 1) (w':=w.alloc (.cells #[.int .i64 id] 2)) ?_ ⟨w.heap.size,rfl,fun h=>by have:=hW.rb _ h.symm;omega,rec_new _ _ _⟩ ((Below.refl _ _).alloc (Nat.le_refl _) _)
 generalize c.eval=ρ at *
 clear hF hb hW hw ho
 go_simp
theorem oAG2_16 (row:Option Nat) (w0:World) (p:GP) (id k:Int) (X B0:Nat) (SV:Value) (n:Nat) (xs:List Value) (Q:Exit→Act→World→Prop) (c:Act) (w:World) (hb:BaseAG2 row w0 p id k X B0 SV n xs c) (hW:WorldAG2 row w0 p id k X B0 SV n xs w) (hO:w.ownsRow B0 2 1 SV n xs∧n≤4000000∧B0≤w.heap.size∧SV.ownBlock=row∧w0.heap.size≤w.heap.size) (hF:∀ q0 ∈ ancAG2 16,factsAt (factsAG2 row w0 p id k X B0 SV n xs) q0 (val RAG2 c q0) w) :
  DoesR Tryz.prog RAG2 Q (factsAt (factsAG2 row w0 p id k X B0 SV n xs)) (fun a b=>a.grownBy b row) 16 c w:=by
 have ho:RAG2[16]?=some (⟨some 37,.call { callee:=.builtin .append,args:=#[.tmp 33,.tmp 36],argTypes:=#[100,100] },100, "edit.go:127",#[⟨12,.data⟩,⟨15,.data⟩],none⟩:Oper):=by kernel_rfl
 have e33:c.eval (.tmp 33)=SV:=fact_eq (by kernel_rfl) rfl (hF 12 (by decide))
 have f36:(fun v w=>∃ y,v=.slice (some ⟨y,0,none⟩) 1 1∧some y≠row∧Rec w y #[.int .i64 id] 2) (c.eval (.tmp 36)) w:=fact_at (by kernel_rfl) rfl (hF 15 (by decide))
 have hw:Region.wanted (⟨some 37,.call { callee:=.builtin .append,args:=#[.tmp 33,.tmp 36],argTypes:=#[100,100] },100, "edit.go:127",#[⟨12,.data⟩,⟨15,.data⟩],none⟩:Oper) (yielded RAG2 c.tmps)=true:=want_none rfl
 have ec:=evc c
 have ef:=evf c
 obtain ⟨i0,hi,hz0,hz1,hz2⟩:=info_parts Tryz.info2
 obtain ⟨y,e36,hyr,hy⟩:=f36
 obtain ⟨h1,h2,h3,h4,h5⟩:=hO
 obtain ⟨v',w',hrun,hown,hgr,_,hbl⟩:=run_append_own_at (P:=Tryz.prog) w B0 100 100 2 i0 (.int .i64 0) 1 8 Tryz.underlying100 hi hz0 hz1 hz2 rfl (by decide) SV n xs h1 ⟨y,0,none⟩ 1 1 [.int .i64 id] rfl (fun j u hj=>by
  have hadd:(⟨y,0,none⟩:Addr).add j=⟨y,j,none⟩:=by unfold Addr.add;split<;>simp_all
  rw [hadd]
  exact hy.cell j (by simpa using hj)) (by intro u hu;simp only [List.mem_cons,List.not_mem_nil,or_false] at hu;subst hu;rfl) (by unfold maxLen;omega) (by omega) h3
 obtain ⟨ua,uc,rfl⟩:=row_slice hown
 refine doesR_value ho hw (v:=.slice ua (n+1) uc) (w':=w') ?_ ⟨hown,hbl.imp (fun h=>h) fun h=>⟨_,h,h5⟩,ua,uc,rfl⟩ (h4▸hgr)
 exact exec_append e33 e36 hrun
theorem stableAG2 (row:Option Nat) (w0:World) (p:GP) (id k:Int) (X B0:Nat) (SV:Value) (n:Nat) (xs:List Value):∀ pr ∈ factsAG2 row w0 p id k X B0 SV n xs,Stable pr:=by
 unfold factsAG2
 iterate 17 (first | refine List.forall_mem_cons.2 ⟨eqv_stable _,?_⟩ | refine List.forall_mem_cons.2 ⟨fun v w w' ⟨y,h,hy,hr⟩ hb=>⟨y,h,hy,hr.below hb hr.lt⟩,?_⟩ | refine List.forall_mem_cons.2 ⟨fun v w w' ⟨h,h1,h2⟩ hb=>⟨row_keep h fun g _ hg=>hb.block g hg,h1,h2⟩,?_⟩)
 exact List.forall_mem_nil _
theorem stableRAG2 (row:Option Nat) (w0:World) (p:GP) (id k:Int) (X B0:Nat) (SV:Value) (n:Nat) (xs:List Value):∀ pr ∈ (factsAG2 row w0 p id k X B0 SV n xs).set 16 (fun _ _=>True),StableR row w0 pr:=by
 unfold factsAG2
 simp only [List.set_cons_succ,List.set_cons_zero]
 iterate 17 (first | refine List.forall_mem_cons.2 ⟨eqv_stableR _ _ _,?_⟩ | refine List.forall_mem_cons.2 ⟨fun _ _ _ _ _ _=>trivial,?_⟩ | refine List.forall_mem_cons.2 ⟨fun v w w' ⟨y,h,hy,hr⟩ _ hg=>⟨y,h,hy,hr.keep (hg.block y hr.lt hy)⟩,?_⟩)
 exact List.forall_mem_nil _
theorem uniAG2 (row:Option Nat) (w0:World) (p:GP) (id k:Int) (X B0:Nat) (SV:Value) (n:Nat) (xs:List Value) (Q:Exit→Act→World→Prop):∀ i,i<17→(fun i=>i ∉ ([12,15,16]:List Nat)→∀ c w,BaseAG2 row w0 p id k X B0 SV n xs c→WorldAG2 row w0 p id k X B0 SV n xs w→(∀ q0 ∈ ancAG2 i,factsAt (factsAG2 row w0 p id k X B0 SV n xs) q0 (val RAG2 c q0) w)→Does Tryz.prog RAG2 Q (factsAt (factsAG2 row w0 p id k X B0 SV n xs)) i c w) i:=by
 iterate 17 (refine below_succ ?_ (by
  intro hn c w hb hW hF
  first
  | exact absurd (by decide) hn
  | (have hEq:=factsL_of hLAG2 (by decide) hF
     refine does_told hLAG2 (by decide) rfl (fun _=>rfl) ?_
     obtain ⟨t0,t3⟩:=hb
     obtain ⟨cm,xk,xi,lk,rb⟩:=hW
     have ec:=evc c
     have ef:=evf c
     dsimp only [ancAG2,LAG2,factsAG2,nth,FactsL,look,eqv] at hEq ⊢
     refine .inl fun pos af=>?_
     clear hF hn
     dsimp only [Sig.oper]
     generalize c.eval=ρ at *
     go_simp
     done)))
 exact below_zero
theorem allAG2 (row:Option Nat) (w0:World) (p:GP) (id k:Int) (X B0:Nat) (SV:Value) (n:Nat) (xs:List Value) (Q:Exit→Act→World→Prop):∀ i,i<17→(fun i=>i≠16→∀ c w,BaseAG2 row w0 p id k X B0 SV n xs c→WorldAG2 row w0 p id k X B0 SV n xs w→(∀ q0 ∈ ancAG2 i,factsAt (factsAG2 row w0 p id k X B0 SV n xs) q0 (val RAG2 c q0) w)→Does Tryz.prog RAG2 Q (factsAt (factsAG2 row w0 p id k X B0 SV n xs)) i c w) i:=by
 intro i hi hne
 by_cases h12:i=12
 ·subst h12;exact fun c w=>oAG2_12 row w0 p id k X B0 SV n xs Q c w
 by_cases h15:i=15
 ·subst h15;exact fun c w=>oAG2_15 row w0 p id k X B0 SV n xs Q c w
 exact uniAG2 row w0 p id k X B0 SV n xs Q i hi (by simp [*])
theorem regionAG2 (row:Option Nat) (w0:World) (p:GP) (id k:Int) (X B0:Nat) (SV:Value) (n:Nat) (xs:List Value) (Q:Exit→Act→World→Prop) (base:Act) (hsz:base.tmps.size=38) (hb:BaseAG2 row w0 p id k X B0 SV n xs base)
  (hW:∀ w,w0.grownBy w row→WorldAG2 row w0 p id k X B0 SV n xs w) (hO:∀ w,Below w0.heap.size w0 w→w.ownsRow B0 2 1 SV n xs∧n≤4000000∧B0≤w.heap.size∧SV.ownBlock=row∧w0.heap.size≤w.heap.size) (hL:∀ c w,Same RAG2 base c→w0.grownBy w row→c.eval (.tmp 24)=.map (some p.t)→c.eval (.tmp 26)=.int .i64 k→(fun v w=>w.ownsRow B0 2 1 v (n+1) (xs++[.int .i64 id])∧(v.ownBlock=SV.ownBlock∨∃ q,v.ownBlock=some q∧w0.heap.size≤q)∧∃ a c,v=.slice a (n+1) c) (c.eval (.tmp 37)) w→∃ w',(execOp c.eval (⟨none,.mapUpdate 72 (.tmp 24) (.tmp 26) (.tmp 37),0, "edit.go:127",#[⟨3,.data⟩,⟨5,.data⟩,⟨16,.data⟩,⟨16,.chain⟩,⟨0,.phase⟩,⟨1,.phase⟩,⟨2,.phase⟩,⟨3,.phase⟩,⟨4,.phase⟩,⟨5,.phase⟩,⟨6,.phase⟩,⟨7,.phase⟩,⟨8,.phase⟩,⟨9,.phase⟩,⟨10,.phase⟩,⟨11,.phase⟩,⟨12,.phase⟩,⟨13,.phase⟩,⟨14,.phase⟩,⟨15,.phase⟩,⟨16,.phase⟩],none⟩:Oper)).run Tryz.prog w=.ok .skip w'∧Q .normal c w'):(Code.region 2 RAG2 true).wp Tryz.prog Q base w0:=by
 have hall:(List.range 17).all (fun i=>(slotOf RAG2 i).isSome)=true:=by kernel_rfl
 refine facts_lastR (A:=ancAG2) (F:=factsAt (factsAG2 row w0 p id k X B0 SV n xs)) (Rel:=fun a b=>a.grownBy b row) (fun _ _ h=>grown_below h) (fun _ _ _ h1 h2=>grown_trans h1 h2) 17 (by kernel_rfl) (by kernel_rfl) (by kernel_rfl) (by rw [hsz];kernel_rfl) ?_ (by decide) 16 (fun i v w w' hf _ hb=>factsAt_stable (stableAG2 row w0 p id k X B0 SV n xs) i v w w' hf hb) (fun i hi v w w'=>factsAt_stableR (stableRAG2 row w0 p id k X B0 SV n xs) i hi v w w') ?_ ?_ ?_
 ·exact fun i hi=>Option.isSome_iff_exists.1 (List.all_eq_true.1 hall i (List.mem_range.2 hi))
 ·intro i hi hne c w hS hB hF
  exact allAG2 row w0 p id k X B0 SV n xs Q i hi hne c w ⟨(same_eval hS (by kernel_rfl)).trans hb.t0,(same_eval hS (by kernel_rfl)).trans hb.t3⟩ (hW w hB) hF
 ·intro hi c w hS hB hF
  exact oAG2_16 row w0 p id k X B0 SV n xs Q c w ⟨(same_eval hS (by kernel_rfl)).trans hb.t0,(same_eval hS (by kernel_rfl)).trans hb.t3⟩ (hW w (grown_below hB)) (hO w hB) hF
 ·intro c w hS hB hF
  obtain ⟨w',h1,h2⟩:=hL c w hS hB (fact_at (p:=eqv (.map (some p.t))) (by kernel_rfl) rfl (hF 3 (by omega))) (fact_at (p:=eqv (.int .i64 k)) (by kernel_rfl) rfl (hF 5 (by omega))) (fact_at (p:=fun v w=>w.ownsRow B0 2 1 v (n+1) (xs++[.int .i64 id])∧(v.ownBlock=SV.ownBlock∨∃ q,v.ownBlock=some q∧w0.heap.size≤q)∧∃ a c,v=.slice a (n+1) c) (by kernel_rfl) rfl (hF 16 (by omega)))
  exact last_skip (by kernel_rfl) (want_none rfl) h1 h2
end Go.Proofs.YteddjlbfbpecjaaGreatDoor

