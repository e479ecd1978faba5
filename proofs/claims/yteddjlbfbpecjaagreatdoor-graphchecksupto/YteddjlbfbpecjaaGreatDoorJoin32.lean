/- A statement that reads, calls and lays rows of its own: operation by operation, in whatever order. The order of values is total: turned about it is its opposite, and it leads on. Values that stand at one place are the same: what the program's Same says against the document's. -/
import Derived.Test.YteddjlbfbpecjaaGreatDoorJoin29
import Derived.Test.YteddjlbfbpecjaaGreatDoorJoin31
import Derived.Test.YteddjlbfbpecjaaGreatDoorRsam3
import Derived.Test.YteddjlbfbpecjaaGreatDoorJoin14
import Derived.Test.YteddjlbfbpecjaaGreatDoorJoin25
import Derived.Test.YteddjlbfbpecjaaGreatDoorRalk
namespace Go.Proofs.YteddjlbfbpecjaaGreatDoor
open Go.RowKit Go.WideShapes Go.Shelf
set_option maxRecDepth 100000
set_option linter.unusedVariables false
set_option linter.unusedSimpArgs false
noncomputable def RGC10  : Array Oper:=regionAt Tryz.f3 10
def ancGC10 (i:Nat):List Nat:=([[],[0],[1],[2],[2,3],[2,4],[5],[6],[6,7],[6],[6,8,9],[6,10],[11],[12],[12,13],[14]]:List (List Nat)).getD i []
def factsGC10 (G X:Nat) (g0 g1 g2 g3:Value) (g:GraphP):List (Value→World→Prop) :=
 [eqv (.int .i64 0),eqv (.bool true),eqv (.bool true),eqv (.pointer (some ⟨X,0,none⟩)),eqv (.bool true),eqv (.bool true),eqv (.bool true),eqv (.pointer (some ⟨X,0,none⟩)),fun v w=>GraphLies w.heap.size w v g,eqv (.agg #[g0,g1,g2,g3]),eqv (.bool true),eqv (.bool true),eqv (.bool true),eqv (.bool true),eqv (.bool true),eqv (.bool true)]
structure BaseGC10 (G X:Nat) (g0 g1 g2 g3:Value) (g:GraphP) (c:Act):Prop where
 t2:c.eval (.tmp 2)=.pointer (some ⟨G,0,none⟩)
 t7:c.eval (.tmp 7)=.pointer (some ⟨X,0,none⟩)
 t8:c.eval (.tmp 8)=.int .i64 0
structure WorldGC10 (G X:Nat) (g0 g1 g2 g3:Value) (g:GraphP) (w:World):Prop where
 x0:w.cell? ⟨G,0,none⟩=some g0
 x1:w.cell? ⟨G,1,none⟩=some g1
 x2:w.cell? ⟨G,2,none⟩=some g2
 x3:w.cell? ⟨G,3,none⟩=some g3
 k4:Calls Tryz.prog 18 #[.pointer (some ⟨X,0,none⟩)] w fun e w'=>e=.returned (.bool true)∧Below w.heap.size w w'
 k8:Calls Tryz.prog 19 #[.pointer (some ⟨X,0,none⟩)] w (TellF w g)
 ty:∀ r ∈ g.rels,r.type.size≤maxLen
 lg:GraphLies w.heap.size w (.agg #[g0,g1,g2,g3]) g
 sm:sameGraphB g g=true
 k13:Calls Tryz.prog 10 #[] w fun e w'=>e=.returned (.bool true)∧Below w.heap.size w w'
theorem oGC10_0 (G X:Nat) (g0 g1 g2 g3:Value) (g:GraphP) (Q:Exit→Act→World→Prop) (c:Act) (w:World) (hb:BaseGC10 G X g0 g1 g2 g3 g c) (hW:WorldGC10 G X g0 g1 g2 g3 g w) (hF:∀ q0 ∈ ancGC10 0,factsAt (factsGC10 G X g0 g1 g2 g3 g) q0 (val RGC10 c q0) w) :
  Does Tryz.prog RGC10 Q (factsAt (factsGC10 G X g0 g1 g2 g3 g)) 0 c w:=by
 have ho:RGC10[0]?=some (⟨some 76,.move (.tmp 8),28, "law.go:71",#[],none⟩:Oper):=by kernel_rfl
 have e8:=hb.t8
 have hw:Region.wanted (⟨some 76,.move (.tmp 8),28, "law.go:71",#[],none⟩:Oper) (yielded RGC10 c.tmps)=true:=want_none rfl
 have ec:=evc c
 have ef:=evf c
 refine does_value ho hw (v:=.int .i64 0) ?_ rfl (Below.refl _ _)
 generalize c.eval=ρ at *
 clear hF hb hW hw ho
 go_simp
theorem oGC10_1 (G X:Nat) (g0 g1 g2 g3:Value) (g:GraphP) (Q:Exit→Act→World→Prop) (c:Act) (w:World) (hb:BaseGC10 G X g0 g1 g2 g3 g c) (hW:WorldGC10 G X g0 g1 g2 g3 g w) (hF:∀ q0 ∈ ancGC10 1,factsAt (factsGC10 G X g0 g1 g2 g3 g) q0 (val RGC10 c q0) w) :
  Does Tryz.prog RGC10 Q (factsAt (factsGC10 G X g0 g1 g2 g3 g)) 1 c w:=by
 have ho:RGC10[1]?=some (⟨some 77,.binOp .eql 28 (.tmp 76) (.const (Value.int .i64 0)) 28,4, "law.go:71",#[⟨0,.data⟩],none⟩:Oper):=by kernel_rfl
 have e76:c.eval (.tmp 76)=.int .i64 0:=fact_eq (by kernel_rfl) rfl (hF 0 (by decide))
 have hw:Region.wanted (⟨some 77,.binOp .eql 28 (.tmp 76) (.const (Value.int .i64 0)) 28,4, "law.go:71",#[⟨0,.data⟩],none⟩:Oper) (yielded RGC10 c.tmps)=true:=want_none rfl
 have ec:=evc c
 have ef:=evf c
 refine does_value ho hw (v:=.bool true) ?_ rfl (Below.refl _ _)
 generalize c.eval=ρ at *
 clear hF hb hW hw ho
 go_simp
theorem oGC10_2 (G X:Nat) (g0 g1 g2 g3:Value) (g:GraphP) (Q:Exit→Act→World→Prop) (c:Act) (w:World) (hb:BaseGC10 G X g0 g1 g2 g3 g c) (hW:WorldGC10 G X g0 g1 g2 g3 g w) (hF:∀ q0 ∈ ancGC10 2,factsAt (factsGC10 G X g0 g1 g2 g3 g) q0 (val RGC10 c q0) w) :
  Does Tryz.prog RGC10 Q (factsAt (factsGC10 G X g0 g1 g2 g3 g)) 2 c w:=by
 have ho:RGC10[2]?=some (⟨some 78,.move (.tmp 77),4, "law.go:71",#[⟨1,.data⟩],none⟩:Oper):=by kernel_rfl
 have e77:c.eval (.tmp 77)=.bool true:=fact_eq (by kernel_rfl) rfl (hF 1 (by decide))
 have hw:Region.wanted (⟨some 78,.move (.tmp 77),4, "law.go:71",#[⟨1,.data⟩],none⟩:Oper) (yielded RGC10 c.tmps)=true:=want_none rfl
 have ec:=evc c
 have ef:=evf c
 refine does_value ho hw (v:=.bool true) ?_ rfl (Below.refl _ _)
 generalize c.eval=ρ at *
 clear hF hb hW hw ho
 go_simp
theorem oGC10_3 (G X:Nat) (g0 g1 g2 g3:Value) (g:GraphP) (Q:Exit→Act→World→Prop) (c:Act) (w:World) (hb:BaseGC10 G X g0 g1 g2 g3 g c) (hW:WorldGC10 G X g0 g1 g2 g3 g w) (hF:∀ q0 ∈ ancGC10 3,factsAt (factsGC10 G X g0 g1 g2 g3 g) q0 (val RGC10 c q0) w) :
  Does Tryz.prog RGC10 Q (factsAt (factsGC10 G X g0 g1 g2 g3 g)) 3 c w:=by
 have ho:RGC10[3]?=some (⟨some 79,.move (.tmp 7),31, "law.go:71",#[⟨2,.guard⟩],some (2,true)⟩:Oper):=by kernel_rfl
 have e7:=hb.t7
 have hg:val RGC10 c 2=.bool true:=hF 2 (by decide)
 have hw:Region.wanted (⟨some 79,.move (.tmp 7),31, "law.go:71",#[⟨2,.guard⟩],some (2,true)⟩:Oper) (yielded RGC10 c.tmps)=true:=want_eq rfl hg
 have ec:=evc c
 have ef:=evf c
 refine does_value ho hw (v:=.pointer (some ⟨X,0,none⟩)) ?_ rfl (Below.refl _ _)
 generalize c.eval=ρ at *
 clear hF hb hW hw ho hg
 go_simp
theorem oGC10_4 (G X:Nat) (g0 g1 g2 g3:Value) (g:GraphP) (Q:Exit→Act→World→Prop) (c:Act) (w:World) (hb:BaseGC10 G X g0 g1 g2 g3 g c) (hW:WorldGC10 G X g0 g1 g2 g3 g w) (hF:∀ q0 ∈ ancGC10 4,factsAt (factsGC10 G X g0 g1 g2 g3 g) q0 (val RGC10 c q0) w) :
  Does Tryz.prog RGC10 Q (factsAt (factsGC10 G X g0 g1 g2 g3 g)) 4 c w:=by
 have ho:RGC10[4]?=some (⟨some 80,.call { callee:=.value (.func 18),args:=#[.tmp 79],argTypes:=#[31] },4, "law.go:71",#[⟨3,.data⟩,⟨2,.chain⟩,⟨2,.guard⟩],some (2,true)⟩:Oper):=by kernel_rfl
 have e79:c.eval (.tmp 79)=.pointer (some ⟨X,0,none⟩):=fact_eq (by kernel_rfl) rfl (hF 3 (by decide))
 have hg:val RGC10 c 2=.bool true:=hF 2 (by decide)
 have hw:Region.wanted (⟨some 80,.call { callee:=.value (.func 18),args:=#[.tmp 79],argTypes:=#[31] },4, "law.go:71",#[⟨3,.data⟩,⟨2,.chain⟩,⟨2,.guard⟩],some (2,true)⟩:Oper) (yielded RGC10 c.tmps)=true:=want_eq rfl hg
 have ec:=evc c
 have ef:=evf c
 refine does_call ho hw (f:=18) (args:=#[.pointer (some ⟨X,0,none⟩)]) ?_ (Calls.mono (hW.k4) fun e w' ⟨h1,h2⟩=>⟨_,h1,rfl,h2⟩)
 generalize c.eval=ρ at *
 clear hF hb hW hw ho hg
 go_simp
theorem oGC10_5 (G X:Nat) (g0 g1 g2 g3:Value) (g:GraphP) (Q:Exit→Act→World→Prop) (c:Act) (w:World) (hb:BaseGC10 G X g0 g1 g2 g3 g c) (hW:WorldGC10 G X g0 g1 g2 g3 g w) (hF:∀ q0 ∈ ancGC10 5,factsAt (factsGC10 G X g0 g1 g2 g3 g) q0 (val RGC10 c q0) w) :
  Does Tryz.prog RGC10 Q (factsAt (factsGC10 G X g0 g1 g2 g3 g)) 5 c w:=by
 have ho:RGC10[5]?=some (⟨some 81,.pick (.tmp 78) (.tmp 80) (.const (Value.bool false)),4, "law.go:71",#[⟨2,.data⟩,⟨4,.data⟩],none⟩:Oper):=by kernel_rfl
 have e78:c.eval (.tmp 78)=.bool true:=fact_eq (by kernel_rfl) rfl (hF 2 (by decide))
 have e80:c.eval (.tmp 80)=.bool true:=fact_eq (by kernel_rfl) rfl (hF 4 (by decide))
 have hw:Region.wanted (⟨some 81,.pick (.tmp 78) (.tmp 80) (.const (Value.bool false)),4, "law.go:71",#[⟨2,.data⟩,⟨4,.data⟩],none⟩:Oper) (yielded RGC10 c.tmps)=true:=want_none rfl
 have ec:=evc c
 have ef:=evf c
 refine does_value ho hw (v:=.bool true) ?_ rfl (Below.refl _ _)
 generalize c.eval=ρ at *
 clear hF hb hW hw ho
 go_simp
theorem oGC10_6 (G X:Nat) (g0 g1 g2 g3:Value) (g:GraphP) (Q:Exit→Act→World→Prop) (c:Act) (w:World) (hb:BaseGC10 G X g0 g1 g2 g3 g c) (hW:WorldGC10 G X g0 g1 g2 g3 g w) (hF:∀ q0 ∈ ancGC10 6,factsAt (factsGC10 G X g0 g1 g2 g3 g) q0 (val RGC10 c q0) w) :
  Does Tryz.prog RGC10 Q (factsAt (factsGC10 G X g0 g1 g2 g3 g)) 6 c w:=by
 have ho:RGC10[6]?=some (⟨some 82,.move (.tmp 81),4, "law.go:71",#[⟨5,.data⟩,⟨4,.chain⟩],none⟩:Oper):=by kernel_rfl
 have e81:c.eval (.tmp 81)=.bool true:=fact_eq (by kernel_rfl) rfl (hF 5 (by decide))
 have hw:Region.wanted (⟨some 82,.move (.tmp 81),4, "law.go:71",#[⟨5,.data⟩,⟨4,.chain⟩],none⟩:Oper) (yielded RGC10 c.tmps)=true:=want_none rfl
 have ec:=evc c
 have ef:=evf c
 refine does_value ho hw (v:=.bool true) ?_ rfl (Below.refl _ _)
 generalize c.eval=ρ at *
 clear hF hb hW hw ho
 go_simp
theorem oGC10_7 (G X:Nat) (g0 g1 g2 g3:Value) (g:GraphP) (Q:Exit→Act→World→Prop) (c:Act) (w:World) (hb:BaseGC10 G X g0 g1 g2 g3 g c) (hW:WorldGC10 G X g0 g1 g2 g3 g w) (hF:∀ q0 ∈ ancGC10 7,factsAt (factsGC10 G X g0 g1 g2 g3 g) q0 (val RGC10 c q0) w) :
  Does Tryz.prog RGC10 Q (factsAt (factsGC10 G X g0 g1 g2 g3 g)) 7 c w:=by
 have ho:RGC10[7]?=some (⟨some 83,.move (.tmp 7),31, "law.go:71",#[⟨6,.guard⟩],some (6,true)⟩:Oper):=by kernel_rfl
 have e7:=hb.t7
 have hg:val RGC10 c 6=.bool true:=hF 6 (by decide)
 have hw:Region.wanted (⟨some 83,.move (.tmp 7),31, "law.go:71",#[⟨6,.guard⟩],some (6,true)⟩:Oper) (yielded RGC10 c.tmps)=true:=want_eq rfl hg
 have ec:=evc c
 have ef:=evf c
 refine does_value ho hw (v:=.pointer (some ⟨X,0,none⟩)) ?_ rfl (Below.refl _ _)
 generalize c.eval=ρ at *
 clear hF hb hW hw ho hg
 go_simp
theorem oGC10_8 (G X:Nat) (g0 g1 g2 g3:Value) (g:GraphP) (Q:Exit→Act→World→Prop) (c:Act) (w:World) (hb:BaseGC10 G X g0 g1 g2 g3 g c) (hW:WorldGC10 G X g0 g1 g2 g3 g w) (hF:∀ q0 ∈ ancGC10 8,factsAt (factsGC10 G X g0 g1 g2 g3 g) q0 (val RGC10 c q0) w) :
  Does Tryz.prog RGC10 Q (factsAt (factsGC10 G X g0 g1 g2 g3 g)) 8 c w:=by
 have ho:RGC10[8]?=some (⟨some 84,.call { callee:=.value (.func 19),args:=#[.tmp 83],argTypes:=#[31] },25, "law.go:71",#[⟨7,.data⟩,⟨6,.chain⟩,⟨6,.guard⟩],some (6,true)⟩:Oper):=by kernel_rfl
 have e83:c.eval (.tmp 83)=.pointer (some ⟨X,0,none⟩):=fact_eq (by kernel_rfl) rfl (hF 7 (by decide))
 have hg:val RGC10 c 6=.bool true:=hF 6 (by decide)
 have hw:Region.wanted (⟨some 84,.call { callee:=.value (.func 19),args:=#[.tmp 83],argTypes:=#[31] },25, "law.go:71",#[⟨7,.data⟩,⟨6,.chain⟩,⟨6,.guard⟩],some (6,true)⟩:Oper) (yielded RGC10 c.tmps)=true:=want_eq rfl hg
 have ec:=evc c
 have ef:=evf c
 refine does_call ho hw (f:=19) (args:=#[.pointer (some ⟨X,0,none⟩)]) ?_ (Calls.mono hW.k8 fun e w' ⟨v,h1,h2,h3⟩=>⟨v,h1,h2.lie hW.ty,h3⟩)
 generalize c.eval=ρ at *
 clear hF hb hW hw ho hg
 go_simp
theorem oGC10_9 (G X:Nat) (g0 g1 g2 g3:Value) (g:GraphP) (Q:Exit→Act→World→Prop) (c:Act) (w:World) (hb:BaseGC10 G X g0 g1 g2 g3 g c) (hW:WorldGC10 G X g0 g1 g2 g3 g w) (hF:∀ q0 ∈ ancGC10 9,factsAt (factsGC10 G X g0 g1 g2 g3 g) q0 (val RGC10 c q0) w) :
  Does Tryz.prog RGC10 Q (factsAt (factsGC10 G X g0 g1 g2 g3 g)) 9 c w:=by
 have ho:RGC10[9]?=some (⟨some 85,.load 25 (.tmp 2),25, "law.go:71",#[⟨6,.guard⟩],some (6,true)⟩:Oper):=by kernel_rfl
 have e2:=hb.t2
 have hg:val RGC10 c 6=.bool true:=hF 6 (by decide)
 have hw:Region.wanted (⟨some 85,.load 25 (.tmp 2),25, "law.go:71",#[⟨6,.guard⟩],some (6,true)⟩:Oper) (yielded RGC10 c.tmps)=true:=want_eq rfl hg
 have ec:=evc c
 have ef:=evf c
 have x0:=hW.x0
 have x1:=hW.x1
 have x2:=hW.x2
 have x3:=hW.x3
 refine does_value ho hw (v:=.agg #[g0,g1,g2,g3]) ?_ rfl (Below.refl _ _)
 generalize c.eval=ρ at *
 clear hF hb hW hw ho hg
 go_simp
theorem oGC10_10 (G X:Nat) (g0 g1 g2 g3:Value) (g:GraphP) (Q:Exit→Act→World→Prop) (c:Act) (w:World) (hb:BaseGC10 G X g0 g1 g2 g3 g c) (hW:WorldGC10 G X g0 g1 g2 g3 g w) (hF:∀ q0 ∈ ancGC10 10,factsAt (factsGC10 G X g0 g1 g2 g3 g) q0 (val RGC10 c q0) w) :
  Does Tryz.prog RGC10 Q (factsAt (factsGC10 G X g0 g1 g2 g3 g)) 10 c w:=by
 have ho:RGC10[10]?=some (⟨some 86,.call { callee:=.value (.func 15),args:=#[.tmp 84,.tmp 85],argTypes:=#[25,25] },4, "law.go:71",#[⟨8,.data⟩,⟨9,.data⟩,⟨8,.chain⟩,⟨6,.guard⟩],some (6,true)⟩:Oper):=by kernel_rfl
 have e84:c.eval (.tmp 84)=val RGC10 c 8:=(val_eq (show slotOf RGC10 8=some 84 by kernel_rfl)).symm
 have e85:c.eval (.tmp 85)=.agg #[g0,g1,g2,g3]:=fact_eq (by kernel_rfl) rfl (hF 9 (by decide))
 have hg:val RGC10 c 6=.bool true:=hF 6 (by decide)
 have hw:Region.wanted (⟨some 86,.call { callee:=.value (.func 15),args:=#[.tmp 84,.tmp 85],argTypes:=#[25,25] },4, "law.go:71",#[⟨8,.data⟩,⟨9,.data⟩,⟨8,.chain⟩,⟨6,.guard⟩],some (6,true)⟩:Oper) (yielded RGC10 c.tmps)=true:=want_eq rfl hg
 have ec:=evc c
 have ef:=evf c
 have f8:GraphLies w.heap.size w (val RGC10 c 8) g:=hF 8 (by decide)
 have hs:=rsame_any g g w.heap.size _ _ w (Nat.le_refl _) f8 hW.lg
 rw [hW.sm] at hs
 generalize val RGC10 c 8=u at *
 refine does_call ho hw (f:=15) (args:=#[u,.agg #[g0,g1,g2,g3]]) ?_ (Calls.mono hs fun e w' ⟨h1,h2⟩=>⟨_,h1,rfl,h2⟩)
 generalize c.eval=ρ at *
 clear f8 hs
 clear hF hb hW hw ho hg
 go_simp
theorem oGC10_11 (G X:Nat) (g0 g1 g2 g3:Value) (g:GraphP) (Q:Exit→Act→World→Prop) (c:Act) (w:World) (hb:BaseGC10 G X g0 g1 g2 g3 g c) (hW:WorldGC10 G X g0 g1 g2 g3 g w) (hF:∀ q0 ∈ ancGC10 11,factsAt (factsGC10 G X g0 g1 g2 g3 g) q0 (val RGC10 c q0) w) :
  Does Tryz.prog RGC10 Q (factsAt (factsGC10 G X g0 g1 g2 g3 g)) 11 c w:=by
 have ho:RGC10[11]?=some (⟨some 87,.pick (.tmp 82) (.tmp 86) (.const (Value.bool false)),4, "law.go:71",#[⟨6,.data⟩,⟨10,.data⟩],none⟩:Oper):=by kernel_rfl
 have e82:c.eval (.tmp 82)=.bool true:=fact_eq (by kernel_rfl) rfl (hF 6 (by decide))
 have e86:c.eval (.tmp 86)=.bool true:=fact_eq (by kernel_rfl) rfl (hF 10 (by decide))
 have hw:Region.wanted (⟨some 87,.pick (.tmp 82) (.tmp 86) (.const (Value.bool false)),4, "law.go:71",#[⟨6,.data⟩,⟨10,.data⟩],none⟩:Oper) (yielded RGC10 c.tmps)=true:=want_none rfl
 have ec:=evc c
 have ef:=evf c
 refine does_value ho hw (v:=.bool true) ?_ rfl (Below.refl _ _)
 generalize c.eval=ρ at *
 clear hF hb hW hw ho
 go_simp
theorem oGC10_12 (G X:Nat) (g0 g1 g2 g3:Value) (g:GraphP) (Q:Exit→Act→World→Prop) (c:Act) (w:World) (hb:BaseGC10 G X g0 g1 g2 g3 g c) (hW:WorldGC10 G X g0 g1 g2 g3 g w) (hF:∀ q0 ∈ ancGC10 12,factsAt (factsGC10 G X g0 g1 g2 g3 g) q0 (val RGC10 c q0) w) :
  Does Tryz.prog RGC10 Q (factsAt (factsGC10 G X g0 g1 g2 g3 g)) 12 c w:=by
 have ho:RGC10[12]?=some (⟨some 88,.move (.tmp 87),4, "law.go:71",#[⟨11,.data⟩,⟨10,.chain⟩],none⟩:Oper):=by kernel_rfl
 have e87:c.eval (.tmp 87)=.bool true:=fact_eq (by kernel_rfl) rfl (hF 11 (by decide))
 have hw:Region.wanted (⟨some 88,.move (.tmp 87),4, "law.go:71",#[⟨11,.data⟩,⟨10,.chain⟩],none⟩:Oper) (yielded RGC10 c.tmps)=true:=want_none rfl
 have ec:=evc c
 have ef:=evf c
 refine does_value ho hw (v:=.bool true) ?_ rfl (Below.refl _ _)
 generalize c.eval=ρ at *
 clear hF hb hW hw ho
 go_simp
theorem oGC10_13 (G X:Nat) (g0 g1 g2 g3:Value) (g:GraphP) (Q:Exit→Act→World→Prop) (c:Act) (w:World) (hb:BaseGC10 G X g0 g1 g2 g3 g c) (hW:WorldGC10 G X g0 g1 g2 g3 g w) (hF:∀ q0 ∈ ancGC10 13,factsAt (factsGC10 G X g0 g1 g2 g3 g) q0 (val RGC10 c q0) w) :
  Does Tryz.prog RGC10 Q (factsAt (factsGC10 G X g0 g1 g2 g3 g)) 13 c w:=by
 have ho:RGC10[13]?=some (⟨some 89,.call { callee:=.value (.func 10),args:=#[],argTypes:=#[] },4, "law.go:71",#[⟨12,.chain⟩,⟨12,.guard⟩],some (12,true)⟩:Oper):=by kernel_rfl
 have hg:val RGC10 c 12=.bool true:=hF 12 (by decide)
 have hw:Region.wanted (⟨some 89,.call { callee:=.value (.func 10),args:=#[],argTypes:=#[] },4, "law.go:71",#[⟨12,.chain⟩,⟨12,.guard⟩],some (12,true)⟩:Oper) (yielded RGC10 c.tmps)=true:=want_eq rfl hg
 have ec:=evc c
 have ef:=evf c
 refine does_call ho hw (f:=10) (args:=#[]) ?_ (Calls.mono (hW.k13) fun e w' ⟨h1,h2⟩=>⟨_,h1,rfl,h2⟩)
 generalize c.eval=ρ at *
 clear hF hb hW hw ho hg
 go_simp
theorem oGC10_14 (G X:Nat) (g0 g1 g2 g3:Value) (g:GraphP) (Q:Exit→Act→World→Prop) (c:Act) (w:World) (hb:BaseGC10 G X g0 g1 g2 g3 g c) (hW:WorldGC10 G X g0 g1 g2 g3 g w) (hF:∀ q0 ∈ ancGC10 14,factsAt (factsGC10 G X g0 g1 g2 g3 g) q0 (val RGC10 c q0) w) :
  Does Tryz.prog RGC10 Q (factsAt (factsGC10 G X g0 g1 g2 g3 g)) 14 c w:=by
 have ho:RGC10[14]?=some (⟨some 90,.pick (.tmp 88) (.tmp 89) (.const (Value.bool false)),4, "law.go:71",#[⟨12,.data⟩,⟨13,.data⟩],none⟩:Oper):=by kernel_rfl
 have e88:c.eval (.tmp 88)=.bool true:=fact_eq (by kernel_rfl) rfl (hF 12 (by decide))
 have e89:c.eval (.tmp 89)=.bool true:=fact_eq (by kernel_rfl) rfl (hF 13 (by decide))
 have hw:Region.wanted (⟨some 90,.pick (.tmp 88) (.tmp 89) (.const (Value.bool false)),4, "law.go:71",#[⟨12,.data⟩,⟨13,.data⟩],none⟩:Oper) (yielded RGC10 c.tmps)=true:=want_none rfl
 have ec:=evc c
 have ef:=evf c
 refine does_value ho hw (v:=.bool true) ?_ rfl (Below.refl _ _)
 generalize c.eval=ρ at *
 clear hF hb hW hw ho
 go_simp
theorem oGC10_15 (G X:Nat) (g0 g1 g2 g3:Value) (g:GraphP) (Q:Exit→Act→World→Prop) (c:Act) (w:World) (hb:BaseGC10 G X g0 g1 g2 g3 g c) (hW:WorldGC10 G X g0 g1 g2 g3 g w) (hF:∀ q0 ∈ ancGC10 15,factsAt (factsGC10 G X g0 g1 g2 g3 g) q0 (val RGC10 c q0) w) :
  Does Tryz.prog RGC10 Q (factsAt (factsGC10 G X g0 g1 g2 g3 g)) 15 c w:=by
 have ho:RGC10[15]?=some (⟨some 4,.assign (.tmp 90),4, "law.go:71",#[⟨14,.data⟩,⟨13,.chain⟩,⟨0,.phase⟩,⟨1,.phase⟩,⟨2,.phase⟩,⟨3,.phase⟩,⟨4,.phase⟩,⟨5,.phase⟩,⟨6,.phase⟩,⟨7,.phase⟩,⟨8,.phase⟩,⟨9,.phase⟩,⟨10,.phase⟩,⟨11,.phase⟩,⟨12,.phase⟩,⟨13,.phase⟩,⟨14,.phase⟩],none⟩:Oper):=by kernel_rfl
 have e90:c.eval (.tmp 90)=.bool true:=fact_eq (by kernel_rfl) rfl (hF 14 (by decide))
 have hw:Region.wanted (⟨some 4,.assign (.tmp 90),4, "law.go:71",#[⟨14,.data⟩,⟨13,.chain⟩,⟨0,.phase⟩,⟨1,.phase⟩,⟨2,.phase⟩,⟨3,.phase⟩,⟨4,.phase⟩,⟨5,.phase⟩,⟨6,.phase⟩,⟨7,.phase⟩,⟨8,.phase⟩,⟨9,.phase⟩,⟨10,.phase⟩,⟨11,.phase⟩,⟨12,.phase⟩,⟨13,.phase⟩,⟨14,.phase⟩],none⟩:Oper) (yielded RGC10 c.tmps)=true:=want_none rfl
 have ec:=evc c
 have ef:=evf c
 refine does_value ho hw (v:=.bool true) ?_ rfl (Below.refl _ _)
 generalize c.eval=ρ at *
 clear hF hb hW hw ho
 go_simp
theorem stableGC10 (G X:Nat) (g0 g1 g2 g3:Value) (g:GraphP):∀ pr ∈ factsGC10 G X g0 g1 g2 g3 g,Stable pr:=by
 unfold factsGC10
 refine List.forall_mem_cons.2 ⟨eqv_stable _,?_⟩
 refine List.forall_mem_cons.2 ⟨eqv_stable _,?_⟩
 refine List.forall_mem_cons.2 ⟨eqv_stable _,?_⟩
 refine List.forall_mem_cons.2 ⟨eqv_stable _,?_⟩
 refine List.forall_mem_cons.2 ⟨eqv_stable _,?_⟩
 refine List.forall_mem_cons.2 ⟨eqv_stable _,?_⟩
 refine List.forall_mem_cons.2 ⟨eqv_stable _,?_⟩
 refine List.forall_mem_cons.2 ⟨eqv_stable _,?_⟩
 refine List.forall_mem_cons.2 ⟨fun v w w' h hb=>(h.below hb).mono hb.size,?_⟩
 refine List.forall_mem_cons.2 ⟨eqv_stable _,?_⟩
 refine List.forall_mem_cons.2 ⟨eqv_stable _,?_⟩
 refine List.forall_mem_cons.2 ⟨eqv_stable _,?_⟩
 refine List.forall_mem_cons.2 ⟨eqv_stable _,?_⟩
 refine List.forall_mem_cons.2 ⟨eqv_stable _,?_⟩
 refine List.forall_mem_cons.2 ⟨eqv_stable _,?_⟩
 refine List.forall_mem_cons.2 ⟨eqv_stable _,?_⟩
 exact List.forall_mem_nil _
theorem allGC10 (G X:Nat) (g0 g1 g2 g3:Value) (g:GraphP) (Q:Exit→Act→World→Prop):∀ i,i<16→(fun i=>∀ c w,BaseGC10 G X g0 g1 g2 g3 g c→WorldGC10 G X g0 g1 g2 g3 g w→(∀ q0 ∈ ancGC10 i,factsAt (factsGC10 G X g0 g1 g2 g3 g) q0 (val RGC10 c q0) w)→Does Tryz.prog RGC10 Q (factsAt (factsGC10 G X g0 g1 g2 g3 g)) i c w) i:=by
 refine below_succ ?_ (fun c w=>oGC10_15 G X g0 g1 g2 g3 g Q c w)
 refine below_succ ?_ (fun c w=>oGC10_14 G X g0 g1 g2 g3 g Q c w)
 refine below_succ ?_ (fun c w=>oGC10_13 G X g0 g1 g2 g3 g Q c w)
 refine below_succ ?_ (fun c w=>oGC10_12 G X g0 g1 g2 g3 g Q c w)
 refine below_succ ?_ (fun c w=>oGC10_11 G X g0 g1 g2 g3 g Q c w)
 refine below_succ ?_ (fun c w=>oGC10_10 G X g0 g1 g2 g3 g Q c w)
 refine below_succ ?_ (fun c w=>oGC10_9 G X g0 g1 g2 g3 g Q c w)
 refine below_succ ?_ (fun c w=>oGC10_8 G X g0 g1 g2 g3 g Q c w)
 refine below_succ ?_ (fun c w=>oGC10_7 G X g0 g1 g2 g3 g Q c w)
 refine below_succ ?_ (fun c w=>oGC10_6 G X g0 g1 g2 g3 g Q c w)
 refine below_succ ?_ (fun c w=>oGC10_5 G X g0 g1 g2 g3 g Q c w)
 refine below_succ ?_ (fun c w=>oGC10_4 G X g0 g1 g2 g3 g Q c w)
 refine below_succ ?_ (fun c w=>oGC10_3 G X g0 g1 g2 g3 g Q c w)
 refine below_succ ?_ (fun c w=>oGC10_2 G X g0 g1 g2 g3 g Q c w)
 refine below_succ ?_ (fun c w=>oGC10_1 G X g0 g1 g2 g3 g Q c w)
 refine below_succ ?_ (fun c w=>oGC10_0 G X g0 g1 g2 g3 g Q c w)
 exact below_zero
theorem regionGC10 (G X:Nat) (g0 g1 g2 g3:Value) (g:GraphP) (Q:Exit→Act→World→Prop) (base:Act) (w0:World) (hsz:base.tmps.size=91) (hb:BaseGC10 G X g0 g1 g2 g3 g base)
  (hW:∀ w,Below w0.heap.size w0 w→WorldGC10 G X g0 g1 g2 g3 g w) (hQ:∀ c w,Same RGC10 base c→Below w0.heap.size w0 w→c.eval (.tmp 4)=.bool true→Q .normal c w):(Code.region 10 RGC10 true).wp Tryz.prog Q base w0:=by
 refine facts_rule (A:=ancGC10) (F:=factsAt (factsGC10 G X g0 g1 g2 g3 g)) (by kernel_rfl) (by rw [hsz];kernel_rfl) (fun i v w w'=>factsAt_stable (stableGC10 G X g0 g1 g2 g3 g) i v w w') ?_ ?_
 ·intro i hi c w hS hB hF
  exact allGC10 G X g0 g1 g2 g3 g Q i (by rwa [show RGC10.size=16 by kernel_rfl] at hi) c w ⟨(same_eval hS (by kernel_rfl)).trans hb.t2,(same_eval hS (by kernel_rfl)).trans hb.t7,(same_eval hS (by kernel_rfl)).trans hb.t8⟩ (hW w hB) hF
 ·intro c w hS hB hF
  exact hQ c w hS hB (fact_at (p:=eqv (.bool true)) (by kernel_rfl) rfl (hF 15 (by rw [show RGC10.size=16 by kernel_rfl];omega)))
end Go.Proofs.YteddjlbfbpecjaaGreatDoor

namespace Go.Proofs.YteddjlbfbpecjaaGreatDoor
open Go.RowKit Go.Shelf
set_option linter.unusedVariables false
theorem cmpI_turn (a b:Int):cmpI b a=-cmpI a b:=by unfold cmpI;split<;>split<;>(try split)<;>(try split)<;>omega
theorem cmpB_eq (a b:UInt8) (r t:List UInt8):Lib.compareBytes (a::r) (b::t)=if cmpI a.toNat b.toNat=0 then Lib.compareBytes r t else cmpI a.toNat b.toNat:=by
 rw [Lib.compareBytes]
 by_cases h1:a<b
 ·have h:a.toNat<b.toNat:=h1
  have:cmpI a.toNat b.toNat=-1:=by unfold cmpI;rw [if_pos (by omega)]
  rw [if_pos h1,this];rfl
 ·have h:¬ a.toNat<b.toNat:=h1
  by_cases h2:b<a
  ·have g:b.toNat<a.toNat:=h2
   have:cmpI a.toNat b.toNat=1:=by unfold cmpI;rw [if_neg (by omega),if_pos (by omega)]
   rw [if_neg h1,if_pos h2,this];rfl
  ·have g:¬ b.toNat<a.toNat:=h2
   have:cmpI a.toNat b.toNat=0:=by unfold cmpI;rw [if_neg (by omega),if_neg (by omega)]
   rw [if_neg h1,if_neg h2,this];rfl
theorem cmpB_turn  : ∀ (a b:List UInt8),Lib.compareBytes b a=-Lib.compareBytes a b
 | [],[]=>rfl
 | [],_::_=>rfl
 | _::_,[]=>rfl
 | a::r,b::t=>by
  rw [cmpB_eq,cmpB_eq,cmpI_turn,cmpB_turn r t]
  by_cases h:cmpI (a.toNat:Int) b.toNat=0
  ·rw [if_pos (by omega),if_pos h]
  ·rw [if_neg (by omega),if_neg h]
theorem agS_turn  : ∀ (a b:List ByteArray),agS b a=-agS a b
 | [],[]=>rfl
 | [],_::_=>rfl
 | _::_,[]=>rfl
 | a::r,b::t=>by
  rw [agS,agS,cmpB_turn,agS_turn r t]
  by_cases h:Lib.compareBytes a.data.toList b.data.toList=0
  ·rw [if_pos (by omega),if_pos h]
  ·rw [if_neg (by omega),if_neg h]
mutual
def Known  : Tree→Prop
 | .mk k _ _ _ _ ts=>(0≤k∧k≤7)∧KnownL ts
def KnownL  : List Tree→Prop
 | []=>True
 | t::r=>Known t∧KnownL r
end
theorem rank_inj {k k':Int} (h:0≤k∧k≤7) (h':0≤k'∧k'≤7) (e:cmpI (rankN k) (rankN k')=0):k=k':=by
 have e':rankN k=rankN k':=by unfold cmpI at e;split at e<;>(try split at e)<;>omega
 unfold rankN at e'
 obtain ⟨h1,h2⟩:=h
 obtain ⟨g1,g2⟩:=h'
 have hk:k=0∨k=1∨k=2∨k=3∨k=4∨k=5∨k=6∨k=7:=by omega
 have gk:k'=0∨k'=1∨k'=2∨k'=3∨k'=4∨k'=5∨k'=6∨k'=7:=by omega
 rcases hk with rfl | rfl | rfl | rfl | rfl | rfl | rfl | rfl<;>rcases gk with rfl | rfl | rfl | rfl | rfl | rfl | rfl | rfl<;>first | rfl | (exfalso;revert e';decide)
def inK (k:Int) (b b':Bool) (n n':Int) (s s':ByteArray) (ks ks':List ByteArray) (ts ts':List Tree):Int :=
 if k=5 then (if agS ks ks'=0 then ordL ts ts' else agS ks ks') else if k=4 then ordL ts ts' else if k=3 then Lib.compareBytes s.data.toList s'.data.toList else if k=1 then cmpI (truthI b) (truthI b') else cmpI n n'
theorem ordT_eq (k:Int) (b:Bool) (n:Int) (s:ByteArray) (ks:List ByteArray) (ts:List Tree) (k':Int) (b':Bool) (n':Int) (s':ByteArray) (ks':List ByteArray) (ts':List Tree) :
  ordT (.mk k b n s ks ts) (.mk k' b' n' s' ks' ts')=if cmpI (rankN k) (rankN k')=0 then inK k b b' n n' s s' ks ks' ts ts' else cmpI (rankN k) (rankN k'):=by rw [ordT];rfl
theorem lex_turn {x x' y y':Int} (h:x'=-x) (g:x=0→y'=-y):(if x'=0 then y' else x')=-(if x=0 then y else x):=by
 by_cases e:x=0
 ·rw [if_pos (by omega),if_pos e];exact g e
 ·rw [if_neg (by omega),if_neg e];exact h
mutual
theorem ordT_turn  : ∀ (a b:Tree),Known a→Known b→ordT b a=-ordT a b
 | .mk k b n s ks ts,.mk k' b' n' s' ks' ts',h,h'=>by
  simp only [Known] at h h'
  rw [ordT_eq,ordT_eq]
  refine lex_turn (cmpI_turn _ _) fun e=>?_
  have:=rank_inj h.1 h'.1 e
  subst this
  unfold inK
  by_cases h5:k=5
  ·rw [if_pos h5,if_pos h5];exact lex_turn (agS_turn _ _) fun _=>ordL_turn ts ts' h.2 h'.2
  rw [if_neg h5,if_neg h5]
  by_cases h4:k=4
  ·rw [if_pos h4,if_pos h4];exact ordL_turn ts ts' h.2 h'.2
  rw [if_neg h4,if_neg h4]
  by_cases h3:k=3
  ·rw [if_pos h3,if_pos h3];exact cmpB_turn _ _
  rw [if_neg h3,if_neg h3]
  by_cases h1:k=1
  ·rw [if_pos h1,if_pos h1];exact cmpI_turn _ _
  rw [if_neg h1,if_neg h1];exact cmpI_turn _ _
theorem ordL_turn  : ∀ (a b:List Tree),KnownL a→KnownL b→ordL b a=-ordL a b
 | [],[],_,_=>rfl
 | [],_::_,_,_=>rfl
 | _::_,[],_,_=>rfl
 | a::r,b::t,h,h'=>by
  simp only [KnownL] at h h'
  rw [ordL,ordL]
  exact lex_turn (ordT_turn a b h.1 h'.1) fun _=>ordL_turn r t h.2 h'.2
end
theorem ordT_self (a:Tree) (h:Known a):ordT a a=0:=by have:=ordT_turn a a h h;omega
mutual
theorem known_pre  : ∀ (T:Tree) (d:Int),(T.pre d).all (fun x=>shapedB x.2)=true→Known T
 | .mk k b n s ks ts,d,h=>by
  rw [Tree.pre,List.all_cons,Bool.and_eq_true] at h
  rw [Known]
  refine ⟨?_,knownL_pre ts (d+1) h.2⟩
  have:=h.1
  unfold shapedB at this
  rw [Bool.and_eq_true] at this
  have h1:=this.1
  by_cases g:0≤k∧k≤7
  ·exact g
  ·rw [if_neg (by omega),if_neg (by omega),if_neg (by omega),if_neg (by omega),if_neg (by omega),if_neg (by omega),if_neg (by omega)] at h1
   cases h1
theorem knownL_pre  : ∀ (l:List Tree) (d:Int),(Tree.preL d l).all (fun x=>shapedB x.2)=true→KnownL l
 | [],_,_=>by simp only [KnownL]
 | t::ts,d,h=>by
  rw [Tree.preL,List.all_append,Bool.and_eq_true] at h
  rw [KnownL]
  exact ⟨known_pre t d h.1,knownL_pre ts d h.2⟩
end
theorem known_check {T:Tree} (h:checkN T=0):Known T:=by
 unfold checkN at h
 by_cases g:(T.pre 1).all (fun x=>shapedB x.2)=true
 ·exact known_pre T 1 g
 ·rw [if_neg g] at h;omega
end Go.Proofs.YteddjlbfbpecjaaGreatDoor

namespace Go.Proofs.YteddjlbfbpecjaaGreatDoor
open Go.RowKit Go.Shelf Go.Lib
set_option linter.unusedVariables false
theorem bytes_inj {s s':ByteArray} (h:s.data.toList=s'.data.toList):s=s':=by
 apply ByteArray.ext
 exact Array.toList_inj.1 h
theorem may_fields {k:Int} {b:Bool} {n:Int} {s:ByteArray} {ks:List ByteArray} {ts:List Tree} (h:mayT (.mk k b n s ks ts)=true) :
  (k=1∨b=false)∧(k=2∨k=6∨k=7∨n=0)∧(k=3∨s=⟨#[]⟩)∧(k=5∨ks=[])∧(k=4∨k=5∨ts=[])∧(k=5→ks.length=ts.length)∧(0≤k∧k≤7)∧∀ t ∈ ts,mayT t=true:=by
 simp only [mayT,Bool.and_eq_true] at h
 obtain ⟨h1,_,h3⟩:=h
 rw [mayL_all] at h3
 simp only [badB,Bool.not_eq_true',Bool.or_eq_false_iff,Bool.not_eq_false',Bool.and_eq_false_iff] at h1
 obtain ⟨⟨⟨⟨⟨a1,a2⟩,a3⟩,_⟩,_⟩,a5⟩:=h1
 simp only [rbareB,Bool.and_eq_true,Bool.or_eq_true,beq_iff_eq,Bool.not_eq_true',decide_eq_true_eq] at a3
 obtain ⟨b1,b2,b3,b4,b5⟩:=a3
 refine ⟨b1,b2,?_,?_,?_,?_,?_,List.all_eq_true.1 h3⟩
 ·rcases b3 with e | e
  ·exact .inl e
  ·refine .inr (bytes_inj ?_)
   rw [ByteArray.toList_eq] at e
   simpa using e
 ·exact b4.imp id fun e=>List.eq_nil_of_length_eq_zero e
 ·exact b5.imp id fun e=>e.imp id fun e=>List.eq_nil_of_length_eq_zero e
 ·intro e
  rcases a5 with a | a
  ·simp [e] at a
  ·simp at a;omega
 ·simp at a1 a2
  omega
theorem cmpI_eq {a b:Int} (h:cmpI a b=0):a=b:=by
 unfold cmpI at h
 split at h
 ·omega
 ·split at h<;>omega
theorem cmpB_one  : ∀ {a b:List UInt8},compareBytes a b=0→a=b
 | [],[],_=>rfl
 | [],_::_,h=>by simp [compareBytes] at h
 | _::_,[],h=>by simp [compareBytes] at h
 | a::r,b::t,h=>by
  rw [compareBytes] at h
  split at h
  ·omega
  ·split at h
   ·omega
   ·rename_i h1 h2
    have e:a=b:=UInt8.toNat_inj.1 (by
     have h3:¬ a.toNat<b.toNat:=fun e=>h1 (UInt8.lt_iff_toNat_lt.2 e)
     have h4:¬ b.toNat<a.toNat:=fun e=>h2 (UInt8.lt_iff_toNat_lt.2 e)
     omega)
    rw [e,cmpB_one h]
theorem agS_one  : ∀ {a b:List ByteArray},agS a b=0→a=b
 | [],[],_=>rfl
 | [],_::_,h=>by simp [agS] at h
 | _::_,[],h=>by simp [agS] at h
 | a::r,b::t,h=>by
  rw [agS] at h
  by_cases h1:compareBytes a.data.toList b.data.toList=0
  ·rw [if_pos h1] at h
   rw [bytes_inj (cmpB_one h1),agS_one h]
  ·rw [if_neg h1] at h;exact absurd h h1
theorem ordL_one  : ∀ {a b:List Tree},(∀ t ∈ a,∀ u ∈ b,ordT t u=0→t=u)→ordL a b=0→a=b
 | [],[],_,_=>rfl
 | [],_::_,_,h=>by simp [ordL] at h
 | _::_,[],_,h=>by simp [ordL] at h
 | a::r,b::t,hh,h=>by
  rw [ordL] at h
  by_cases h1:ordT a b=0
  ·rw [if_pos h1] at h
   rw [hh a (by simp) b (by simp) h1,ordL_one (fun x hx y hy=>hh x (by simp [hx]) y (by simp [hy])) h]
  ·rw [if_neg h1] at h;exact absurd h h1
theorem rank_one {k k':Int} (h:0≤k∧k≤7) (h':0≤k'∧k'≤7) (e:rankN k=rankN k'):k=k':=by
 have a:k=0∨k=1∨k=2∨k=3∨k=4∨k=5∨k=6∨k=7:=by omega
 have b:k'=0∨k'=1∨k'=2∨k'=3∨k'=4∨k'=5∨k'=6∨k'=7:=by omega
 rcases a with rfl | rfl | rfl | rfl | rfl | rfl | rfl | rfl<;>rcases b with rfl | rfl | rfl | rfl | rfl | rfl | rfl | rfl<;>first | rfl | (exact absurd e (by decide))
theorem ord_one  : ∀ A,mayT A=true→∀ B,mayT B=true→ordT A B=0→A=B:=by
 refine Tree.ind ?_
 intro k b n s ks ts ih hA B hB h
 obtain ⟨k',b',n',s',ks',ts'⟩:=B
 obtain ⟨f1,f2,f3,f4,f5,f6,f7,f8⟩:=may_fields hA
 obtain ⟨g1,g2,g3,g4,g5,g6,g7,g8⟩:=may_fields hB
 rw [ordT] at h
 by_cases hk:cmpI (rankN k) (rankN k')=0
 ·rw [if_pos hk] at h
  obtain rfl:=rank_one f7 g7 (cmpI_eq hk)
  have hL:ordL ts ts'=0→ts=ts':=ordL_one fun t ht u hu=>ih t ht (f8 t ht) u (g8 u hu)
  have hb:k≠1→b=b':=fun h=>(f1.resolve_left h).trans (g1.resolve_left h).symm
  have hs:k≠3→s=s':=fun h=>(f3.resolve_left h).trans (g3.resolve_left h).symm
  have hks:k≠5→ks=ks':=fun h=>(f4.resolve_left h).trans (g4.resolve_left h).symm
  have hts:k≠4→k≠5→ts=ts':=fun h h'=>((f5.resolve_left h).resolve_left h').trans ((g5.resolve_left h).resolve_left h').symm
  have hn:k=1∨k=3∨k=4∨k=5→n=n':=fun h=>by omega
  by_cases k5:k=5
  ·rw [if_pos k5] at h
   by_cases ha:agS ks ks'=0
   ·rw [if_pos ha] at h
    rw [hL h,agS_one ha,hb (by omega),hs (by omega),hn (by omega)]
   ·rw [if_neg ha] at h;exact absurd h ha
  ·rw [if_neg k5] at h
   by_cases k4:k=4
   ·rw [if_pos k4] at h
    rw [hL h,hks k5,hb (by omega),hs (by omega),hn (by omega)]
   ·rw [if_neg k4] at h
    by_cases k3:k=3
    ·rw [if_pos k3] at h
     rw [bytes_inj (cmpB_one h),hks k5,hb (by omega),hts k4 k5,hn (by omega)]
    ·rw [if_neg k3] at h
     by_cases k1:k=1
     ·rw [if_pos k1] at h
      have:b=b':=by
       have:=cmpI_eq h
       cases b<;>cases b'<;>first | rfl | (exact absurd this (by decide))
      rw [this,hks k5,hs k3,hts k4 k5,hn (by omega)]
     ·rw [if_neg k1] at h
      rw [cmpI_eq h,hks k5,hs k3,hts k4 k5,hb k1]
 ·rw [if_neg hk] at h;exact absurd h hk
theorem textsB_one  : ∀ {a b:List ByteArray},a.length=b.length→textsB a b=true→a=b
 | [],[],_,_=>rfl
 | [],_::_,h,_=>by simp at h
 | _::_,[],h,_=>by simp at h
 | a::r,b::t,h,h2=>by
  rw [textsB,Bool.and_eq_true,beq_iff_eq,ByteArray.toList_eq,ByteArray.toList_eq] at h2
  rw [bytes_inj h2.1,textsB_one (by simpa using h) h2.2]
theorem textsB_self  : ∀ (a:List ByteArray),textsB a a=true
 | []=>rfl
 | a::r=>by rw [textsB,textsB_self r];simp
mutual
theorem alikeT_one  : ∀ (A B:Tree),alikeT A B=true→A=B
 | .mk k x n s ks ts,.mk k' x' n' s' ks' ts',h=>by
  simp only [alikeT,Bool.and_eq_true,Bool.not_eq_true',bne_eq_false_iff_eq,beq_iff_eq,ByteArray.toList_eq] at h
  obtain ⟨h1,h2,h3,h4,h5,h6,h7,h8⟩:=h
  rw [h1,h2,h3,bytes_inj h4,textsB_one (by omega) h7,alikeL_one ts ts' (by omega) h8]
theorem alikeL_one  : ∀ (a b:List Tree),a.length=b.length→alikeL a b=true→a=b
 | [],[],_,_=>rfl
 | [],_::_,h,_=>by simp at h
 | _::_,[],h,_=>by simp at h
 | a::r,b::t,h,h2=>by
  rw [alikeL,Bool.and_eq_true] at h2
  rw [alikeT_one a b h2.1,alikeL_one r t (by simpa using h) h2.2]
end
mutual
theorem alikeT_self  : ∀ (A:Tree),alikeT A A=true
 | .mk k x n s ks ts=>by
  simp only [alikeT,textsB_self,alikeL_self ts,bne_self_eq_false,beq_self_eq_true,Bool.not_false,Bool.and_true]
theorem alikeL_self  : ∀ (a:List Tree),alikeL a a=true
 | []=>rfl
 | a::r=>by rw [alikeL,alikeT_self a,alikeL_self r];rfl
end
theorem may_zero {T:Tree} (hc:checkN T=0):mayT T=true:=by
 rw [check_eq] at hc
 by_cases h:mayT T=true
 ·exact h
 ·rw [if_neg h] at hc;omega
theorem same_alike (A B:Tree):sameB A B=(alikeT A B&&(checkN A==0)):=by
 by_cases h:alikeT A B=true
 ·obtain rfl:=alikeT_one A B h
  rw [h]
  unfold sameB
  by_cases hc:checkN A=0
  ·rw [ordT_self A (known_check hc)];simp [hc]
  ·simp [hc]
 ·rw [Bool.not_eq_true] at h
  rw [h,Bool.false_and,Bool.eq_false_iff]
  intro hs
  unfold sameB at hs
  rw [Bool.and_eq_true,decide_eq_true_eq,beq_iff_eq] at hs
  have:=ord_one A (may_zero hs.1.1) B (may_zero hs.1.2) hs.2
  subst this
  rw [alikeT_self] at h;cases h
end Go.Proofs.YteddjlbfbpecjaaGreatDoor

