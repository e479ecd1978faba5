/- A statement that reads, calls and lays rows of its own: operation by operation, in whatever order. -/
import Derived.Test.YteddjlbfbpecjaaGreatDoorJoin32
import Derived.Test.YteddjlbfbpecjaaGreatDoorJoin29
namespace Go.Proofs.YteddjlbfbpecjaaGreatDoor
open Go.RowKit Go.WideShapes Go.Shelf
set_option maxRecDepth 100000
set_option linter.unusedVariables false
set_option linter.unusedSimpArgs false
noncomputable def RGK26  : Array Oper:=regionAt Tryz.f8 26
def ancGK26 (i:Nat):List Nat:=([[],[0],[],[1,2],[3],[4],[4],[4,5,6],[4,7],[8],[9],[9,10],[11]]:List (List Nat)).getD i []
def factsGK26 (A Z M X:Nat) (g0 g1 g2 g3 z0 z1 z2 z3 m0 m1 m2 m3:Value) (g:GraphP):List (Value→World→Prop) :=
 [eqv (.pointer (some ⟨X,0,none⟩)),fun v w=>GraphLies w.heap.size w v g,eqv (.agg #[m0,m1,m2,m3]),eqv (.bool true),eqv (.bool true),eqv (.agg #[g0,g1,g2,g3]),eqv (.agg #[z0,z1,z2,z3]),eqv (.bool true),eqv (.bool true),eqv (.bool true),eqv (.bool true),eqv (.bool true),eqv (.bool true)]
structure BaseGK26 (A Z M X:Nat) (g0 g1 g2 g3 z0 z1 z2 z3 m0 m1 m2 m3:Value) (g:GraphP) (c:Act):Prop where
 t2:c.eval (.tmp 2)=.pointer (some ⟨A,0,none⟩)
 t5:c.eval (.tmp 5)=.pointer (some ⟨Z,0,none⟩)
 t8:c.eval (.tmp 8)=.pointer (some ⟨M,0,none⟩)
 t6:c.eval (.tmp 6)=.pointer (some ⟨X,0,none⟩)
structure WorldGK26 (A Z M X:Nat) (g0 g1 g2 g3 z0 z1 z2 z3 m0 m1 m2 m3:Value) (g:GraphP) (w:World):Prop where
 xg0:w.cell? ⟨A,0,none⟩=some g0
 xg1:w.cell? ⟨A,1,none⟩=some g1
 xg2:w.cell? ⟨A,2,none⟩=some g2
 xg3:w.cell? ⟨A,3,none⟩=some g3
 xz0:w.cell? ⟨Z,0,none⟩=some z0
 xz1:w.cell? ⟨Z,1,none⟩=some z1
 xz2:w.cell? ⟨Z,2,none⟩=some z2
 xz3:w.cell? ⟨Z,3,none⟩=some z3
 xm0:w.cell? ⟨M,0,none⟩=some m0
 xm1:w.cell? ⟨M,1,none⟩=some m1
 xm2:w.cell? ⟨M,2,none⟩=some m2
 xm3:w.cell? ⟨M,3,none⟩=some m3
 k1:Calls Tryz.prog 19 #[.pointer (some ⟨X,0,none⟩)] w (TellF w g)
 ty:∀ r ∈ g.rels,r.type.size≤maxLen
 lg:GraphLies w.heap.size w (.agg #[m0,m1,m2,m3]) g
 sm:sameGraphB g g=true
 k7:Calls Tryz.prog 15 #[.agg #[g0,g1,g2,g3],.agg #[z0,z1,z2,z3]] w fun e w'=>e=.returned (.bool true)∧Below w.heap.size w w'
 k10:Calls Tryz.prog 10 #[] w fun e w'=>e=.returned (.bool true)∧Below w.heap.size w w'
theorem oGK26_0 (A Z M X:Nat) (g0 g1 g2 g3 z0 z1 z2 z3 m0 m1 m2 m3:Value) (g:GraphP) (Q:Exit→Act→World→Prop) (c:Act) (w:World) (hb:BaseGK26 A Z M X g0 g1 g2 g3 z0 z1 z2 z3 m0 m1 m2 m3 g c) (hW:WorldGK26 A Z M X g0 g1 g2 g3 z0 z1 z2 z3 m0 m1 m2 m3 g w) (hF:∀ q0 ∈ ancGK26 0,factsAt (factsGK26 A Z M X g0 g1 g2 g3 z0 z1 z2 z3 m0 m1 m2 m3 g) q0 (val RGK26 c q0) w) :
  Does Tryz.prog RGK26 Q (factsAt (factsGK26 A Z M X g0 g1 g2 g3 z0 z1 z2 z3 m0 m1 m2 m3 g)) 0 c w:=by
 have ho:RGK26[0]?=some (⟨some 112,.move (.tmp 6),31, "law.go:278",#[],none⟩:Oper):=by kernel_rfl
 have e6:=hb.t6
 have hw:Region.wanted (⟨some 112,.move (.tmp 6),31, "law.go:278",#[],none⟩:Oper) (yielded RGK26 c.tmps)=true:=want_none rfl
 have ec:=evc c
 have ef:=evf c
 refine does_value ho hw (v:=.pointer (some ⟨X,0,none⟩)) ?_ rfl (Below.refl _ _)
 generalize c.eval=ρ at *
 clear hF hb hW hw ho
 go_simp
theorem oGK26_1 (A Z M X:Nat) (g0 g1 g2 g3 z0 z1 z2 z3 m0 m1 m2 m3:Value) (g:GraphP) (Q:Exit→Act→World→Prop) (c:Act) (w:World) (hb:BaseGK26 A Z M X g0 g1 g2 g3 z0 z1 z2 z3 m0 m1 m2 m3 g c) (hW:WorldGK26 A Z M X g0 g1 g2 g3 z0 z1 z2 z3 m0 m1 m2 m3 g w) (hF:∀ q0 ∈ ancGK26 1,factsAt (factsGK26 A Z M X g0 g1 g2 g3 z0 z1 z2 z3 m0 m1 m2 m3 g) q0 (val RGK26 c q0) w) :
  Does Tryz.prog RGK26 Q (factsAt (factsGK26 A Z M X g0 g1 g2 g3 z0 z1 z2 z3 m0 m1 m2 m3 g)) 1 c w:=by
 have ho:RGK26[1]?=some (⟨some 113,.call { callee:=.value (.func 19),args:=#[.tmp 112],argTypes:=#[31] },25, "law.go:278",#[⟨0,.data⟩],none⟩:Oper):=by kernel_rfl
 have e112:c.eval (.tmp 112)=.pointer (some ⟨X,0,none⟩):=fact_eq (by kernel_rfl) rfl (hF 0 (by decide))
 have hw:Region.wanted (⟨some 113,.call { callee:=.value (.func 19),args:=#[.tmp 112],argTypes:=#[31] },25, "law.go:278",#[⟨0,.data⟩],none⟩:Oper) (yielded RGK26 c.tmps)=true:=want_none rfl
 have ec:=evc c
 have ef:=evf c
 refine does_call ho hw (f:=19) (args:=#[.pointer (some ⟨X,0,none⟩)]) ?_ (Calls.mono hW.k1 fun e w' ⟨v,h1,h2,h3⟩=>⟨v,h1,h2.lie hW.ty,h3⟩)
 generalize c.eval=ρ at *
 clear hF hb hW hw ho
 go_simp
theorem oGK26_2 (A Z M X:Nat) (g0 g1 g2 g3 z0 z1 z2 z3 m0 m1 m2 m3:Value) (g:GraphP) (Q:Exit→Act→World→Prop) (c:Act) (w:World) (hb:BaseGK26 A Z M X g0 g1 g2 g3 z0 z1 z2 z3 m0 m1 m2 m3 g c) (hW:WorldGK26 A Z M X g0 g1 g2 g3 z0 z1 z2 z3 m0 m1 m2 m3 g w) (hF:∀ q0 ∈ ancGK26 2,factsAt (factsGK26 A Z M X g0 g1 g2 g3 z0 z1 z2 z3 m0 m1 m2 m3 g) q0 (val RGK26 c q0) w) :
  Does Tryz.prog RGK26 Q (factsAt (factsGK26 A Z M X g0 g1 g2 g3 z0 z1 z2 z3 m0 m1 m2 m3 g)) 2 c w:=by
 have ho:RGK26[2]?=some (⟨some 114,.load 25 (.tmp 8),25, "law.go:278",#[],none⟩:Oper):=by kernel_rfl
 have e8:=hb.t8
 have hw:Region.wanted (⟨some 114,.load 25 (.tmp 8),25, "law.go:278",#[],none⟩:Oper) (yielded RGK26 c.tmps)=true:=want_none rfl
 have ec:=evc c
 have ef:=evf c
 have xm0:=hW.xm0
 have xm1:=hW.xm1
 have xm2:=hW.xm2
 have xm3:=hW.xm3
 refine does_value ho hw (v:=.agg #[m0,m1,m2,m3]) ?_ rfl (Below.refl _ _)
 generalize c.eval=ρ at *
 clear hF hb hW hw ho
 go_simp
theorem oGK26_3 (A Z M X:Nat) (g0 g1 g2 g3 z0 z1 z2 z3 m0 m1 m2 m3:Value) (g:GraphP) (Q:Exit→Act→World→Prop) (c:Act) (w:World) (hb:BaseGK26 A Z M X g0 g1 g2 g3 z0 z1 z2 z3 m0 m1 m2 m3 g c) (hW:WorldGK26 A Z M X g0 g1 g2 g3 z0 z1 z2 z3 m0 m1 m2 m3 g w) (hF:∀ q0 ∈ ancGK26 3,factsAt (factsGK26 A Z M X g0 g1 g2 g3 z0 z1 z2 z3 m0 m1 m2 m3 g) q0 (val RGK26 c q0) w) :
  Does Tryz.prog RGK26 Q (factsAt (factsGK26 A Z M X g0 g1 g2 g3 z0 z1 z2 z3 m0 m1 m2 m3 g)) 3 c w:=by
 have ho:RGK26[3]?=some (⟨some 115,.call { callee:=.value (.func 15),args:=#[.tmp 113,.tmp 114],argTypes:=#[25,25] },4, "law.go:278",#[⟨1,.data⟩,⟨2,.data⟩,⟨1,.chain⟩],none⟩:Oper):=by kernel_rfl
 have e113:c.eval (.tmp 113)=val RGK26 c 1:=(val_eq (show slotOf RGK26 1=some 113 by kernel_rfl)).symm
 have e114:c.eval (.tmp 114)=.agg #[m0,m1,m2,m3]:=fact_eq (by kernel_rfl) rfl (hF 2 (by decide))
 have hw:Region.wanted (⟨some 115,.call { callee:=.value (.func 15),args:=#[.tmp 113,.tmp 114],argTypes:=#[25,25] },4, "law.go:278",#[⟨1,.data⟩,⟨2,.data⟩,⟨1,.chain⟩],none⟩:Oper) (yielded RGK26 c.tmps)=true:=want_none rfl
 have ec:=evc c
 have ef:=evf c
 have f1:GraphLies w.heap.size w (val RGK26 c 1) g:=hF 1 (by decide)
 have hs:=rsame_any g g w.heap.size _ _ w (Nat.le_refl _) f1 hW.lg
 rw [hW.sm] at hs
 generalize val RGK26 c 1=u at *
 refine does_call ho hw (f:=15) (args:=#[u,.agg #[m0,m1,m2,m3]]) ?_ (Calls.mono hs fun e w' ⟨h1,h2⟩=>⟨_,h1,rfl,h2⟩)
 generalize c.eval=ρ at *
 clear f1 hs
 clear hF hb hW hw ho
 go_simp
theorem oGK26_4 (A Z M X:Nat) (g0 g1 g2 g3 z0 z1 z2 z3 m0 m1 m2 m3:Value) (g:GraphP) (Q:Exit→Act→World→Prop) (c:Act) (w:World) (hb:BaseGK26 A Z M X g0 g1 g2 g3 z0 z1 z2 z3 m0 m1 m2 m3 g c) (hW:WorldGK26 A Z M X g0 g1 g2 g3 z0 z1 z2 z3 m0 m1 m2 m3 g w) (hF:∀ q0 ∈ ancGK26 4,factsAt (factsGK26 A Z M X g0 g1 g2 g3 z0 z1 z2 z3 m0 m1 m2 m3 g) q0 (val RGK26 c q0) w) :
  Does Tryz.prog RGK26 Q (factsAt (factsGK26 A Z M X g0 g1 g2 g3 z0 z1 z2 z3 m0 m1 m2 m3 g)) 4 c w:=by
 have ho:RGK26[4]?=some (⟨some 116,.move (.tmp 115),4, "law.go:278",#[⟨3,.data⟩,⟨3,.chain⟩],none⟩:Oper):=by kernel_rfl
 have e115:c.eval (.tmp 115)=.bool true:=fact_eq (by kernel_rfl) rfl (hF 3 (by decide))
 have hw:Region.wanted (⟨some 116,.move (.tmp 115),4, "law.go:278",#[⟨3,.data⟩,⟨3,.chain⟩],none⟩:Oper) (yielded RGK26 c.tmps)=true:=want_none rfl
 have ec:=evc c
 have ef:=evf c
 refine does_value ho hw (v:=.bool true) ?_ rfl (Below.refl _ _)
 generalize c.eval=ρ at *
 clear hF hb hW hw ho
 go_simp
theorem oGK26_5 (A Z M X:Nat) (g0 g1 g2 g3 z0 z1 z2 z3 m0 m1 m2 m3:Value) (g:GraphP) (Q:Exit→Act→World→Prop) (c:Act) (w:World) (hb:BaseGK26 A Z M X g0 g1 g2 g3 z0 z1 z2 z3 m0 m1 m2 m3 g c) (hW:WorldGK26 A Z M X g0 g1 g2 g3 z0 z1 z2 z3 m0 m1 m2 m3 g w) (hF:∀ q0 ∈ ancGK26 5,factsAt (factsGK26 A Z M X g0 g1 g2 g3 z0 z1 z2 z3 m0 m1 m2 m3 g) q0 (val RGK26 c q0) w) :
  Does Tryz.prog RGK26 Q (factsAt (factsGK26 A Z M X g0 g1 g2 g3 z0 z1 z2 z3 m0 m1 m2 m3 g)) 5 c w:=by
 have ho:RGK26[5]?=some (⟨some 117,.load 25 (.tmp 2),25, "law.go:278",#[⟨4,.guard⟩],some (4,true)⟩:Oper):=by kernel_rfl
 have e2:=hb.t2
 have hg:val RGK26 c 4=.bool true:=hF 4 (by decide)
 have hw:Region.wanted (⟨some 117,.load 25 (.tmp 2),25, "law.go:278",#[⟨4,.guard⟩],some (4,true)⟩:Oper) (yielded RGK26 c.tmps)=true:=want_eq rfl hg
 have ec:=evc c
 have ef:=evf c
 have xg0:=hW.xg0
 have xg1:=hW.xg1
 have xg2:=hW.xg2
 have xg3:=hW.xg3
 refine does_value ho hw (v:=.agg #[g0,g1,g2,g3]) ?_ rfl (Below.refl _ _)
 generalize c.eval=ρ at *
 clear hF hb hW hw ho hg
 go_simp
theorem oGK26_6 (A Z M X:Nat) (g0 g1 g2 g3 z0 z1 z2 z3 m0 m1 m2 m3:Value) (g:GraphP) (Q:Exit→Act→World→Prop) (c:Act) (w:World) (hb:BaseGK26 A Z M X g0 g1 g2 g3 z0 z1 z2 z3 m0 m1 m2 m3 g c) (hW:WorldGK26 A Z M X g0 g1 g2 g3 z0 z1 z2 z3 m0 m1 m2 m3 g w) (hF:∀ q0 ∈ ancGK26 6,factsAt (factsGK26 A Z M X g0 g1 g2 g3 z0 z1 z2 z3 m0 m1 m2 m3 g) q0 (val RGK26 c q0) w) :
  Does Tryz.prog RGK26 Q (factsAt (factsGK26 A Z M X g0 g1 g2 g3 z0 z1 z2 z3 m0 m1 m2 m3 g)) 6 c w:=by
 have ho:RGK26[6]?=some (⟨some 118,.load 25 (.tmp 5),25, "law.go:278",#[⟨4,.guard⟩],some (4,true)⟩:Oper):=by kernel_rfl
 have e5:=hb.t5
 have hg:val RGK26 c 4=.bool true:=hF 4 (by decide)
 have hw:Region.wanted (⟨some 118,.load 25 (.tmp 5),25, "law.go:278",#[⟨4,.guard⟩],some (4,true)⟩:Oper) (yielded RGK26 c.tmps)=true:=want_eq rfl hg
 have ec:=evc c
 have ef:=evf c
 have xz0:=hW.xz0
 have xz1:=hW.xz1
 have xz2:=hW.xz2
 have xz3:=hW.xz3
 refine does_value ho hw (v:=.agg #[z0,z1,z2,z3]) ?_ rfl (Below.refl _ _)
 generalize c.eval=ρ at *
 clear hF hb hW hw ho hg
 go_simp
theorem oGK26_7 (A Z M X:Nat) (g0 g1 g2 g3 z0 z1 z2 z3 m0 m1 m2 m3:Value) (g:GraphP) (Q:Exit→Act→World→Prop) (c:Act) (w:World) (hb:BaseGK26 A Z M X g0 g1 g2 g3 z0 z1 z2 z3 m0 m1 m2 m3 g c) (hW:WorldGK26 A Z M X g0 g1 g2 g3 z0 z1 z2 z3 m0 m1 m2 m3 g w) (hF:∀ q0 ∈ ancGK26 7,factsAt (factsGK26 A Z M X g0 g1 g2 g3 z0 z1 z2 z3 m0 m1 m2 m3 g) q0 (val RGK26 c q0) w) :
  Does Tryz.prog RGK26 Q (factsAt (factsGK26 A Z M X g0 g1 g2 g3 z0 z1 z2 z3 m0 m1 m2 m3 g)) 7 c w:=by
 have ho:RGK26[7]?=some (⟨some 119,.call { callee:=.value (.func 15),args:=#[.tmp 117,.tmp 118],argTypes:=#[25,25] },4, "law.go:278",#[⟨5,.data⟩,⟨6,.data⟩,⟨4,.chain⟩,⟨4,.guard⟩],some (4,true)⟩:Oper):=by kernel_rfl
 have e117:c.eval (.tmp 117)=.agg #[g0,g1,g2,g3]:=fact_eq (by kernel_rfl) rfl (hF 5 (by decide))
 have e118:c.eval (.tmp 118)=.agg #[z0,z1,z2,z3]:=fact_eq (by kernel_rfl) rfl (hF 6 (by decide))
 have hg:val RGK26 c 4=.bool true:=hF 4 (by decide)
 have hw:Region.wanted (⟨some 119,.call { callee:=.value (.func 15),args:=#[.tmp 117,.tmp 118],argTypes:=#[25,25] },4, "law.go:278",#[⟨5,.data⟩,⟨6,.data⟩,⟨4,.chain⟩,⟨4,.guard⟩],some (4,true)⟩:Oper) (yielded RGK26 c.tmps)=true:=want_eq rfl hg
 have ec:=evc c
 have ef:=evf c
 refine does_call ho hw (f:=15) (args:=#[.agg #[g0,g1,g2,g3],.agg #[z0,z1,z2,z3]]) ?_ (Calls.mono (hW.k7) fun e w' ⟨h1,h2⟩=>⟨_,h1,rfl,h2⟩)
 generalize c.eval=ρ at *
 clear hF hb hW hw ho hg
 go_simp
theorem oGK26_8 (A Z M X:Nat) (g0 g1 g2 g3 z0 z1 z2 z3 m0 m1 m2 m3:Value) (g:GraphP) (Q:Exit→Act→World→Prop) (c:Act) (w:World) (hb:BaseGK26 A Z M X g0 g1 g2 g3 z0 z1 z2 z3 m0 m1 m2 m3 g c) (hW:WorldGK26 A Z M X g0 g1 g2 g3 z0 z1 z2 z3 m0 m1 m2 m3 g w) (hF:∀ q0 ∈ ancGK26 8,factsAt (factsGK26 A Z M X g0 g1 g2 g3 z0 z1 z2 z3 m0 m1 m2 m3 g) q0 (val RGK26 c q0) w) :
  Does Tryz.prog RGK26 Q (factsAt (factsGK26 A Z M X g0 g1 g2 g3 z0 z1 z2 z3 m0 m1 m2 m3 g)) 8 c w:=by
 have ho:RGK26[8]?=some (⟨some 120,.pick (.tmp 116) (.tmp 119) (.const (Value.bool false)),4, "law.go:278",#[⟨4,.data⟩,⟨7,.data⟩],none⟩:Oper):=by kernel_rfl
 have e116:c.eval (.tmp 116)=.bool true:=fact_eq (by kernel_rfl) rfl (hF 4 (by decide))
 have e119:c.eval (.tmp 119)=.bool true:=fact_eq (by kernel_rfl) rfl (hF 7 (by decide))
 have hw:Region.wanted (⟨some 120,.pick (.tmp 116) (.tmp 119) (.const (Value.bool false)),4, "law.go:278",#[⟨4,.data⟩,⟨7,.data⟩],none⟩:Oper) (yielded RGK26 c.tmps)=true:=want_none rfl
 have ec:=evc c
 have ef:=evf c
 refine does_value ho hw (v:=.bool true) ?_ rfl (Below.refl _ _)
 generalize c.eval=ρ at *
 clear hF hb hW hw ho
 go_simp
theorem oGK26_9 (A Z M X:Nat) (g0 g1 g2 g3 z0 z1 z2 z3 m0 m1 m2 m3:Value) (g:GraphP) (Q:Exit→Act→World→Prop) (c:Act) (w:World) (hb:BaseGK26 A Z M X g0 g1 g2 g3 z0 z1 z2 z3 m0 m1 m2 m3 g c) (hW:WorldGK26 A Z M X g0 g1 g2 g3 z0 z1 z2 z3 m0 m1 m2 m3 g w) (hF:∀ q0 ∈ ancGK26 9,factsAt (factsGK26 A Z M X g0 g1 g2 g3 z0 z1 z2 z3 m0 m1 m2 m3 g) q0 (val RGK26 c q0) w) :
  Does Tryz.prog RGK26 Q (factsAt (factsGK26 A Z M X g0 g1 g2 g3 z0 z1 z2 z3 m0 m1 m2 m3 g)) 9 c w:=by
 have ho:RGK26[9]?=some (⟨some 121,.move (.tmp 120),4, "law.go:278",#[⟨8,.data⟩,⟨7,.chain⟩],none⟩:Oper):=by kernel_rfl
 have e120:c.eval (.tmp 120)=.bool true:=fact_eq (by kernel_rfl) rfl (hF 8 (by decide))
 have hw:Region.wanted (⟨some 121,.move (.tmp 120),4, "law.go:278",#[⟨8,.data⟩,⟨7,.chain⟩],none⟩:Oper) (yielded RGK26 c.tmps)=true:=want_none rfl
 have ec:=evc c
 have ef:=evf c
 refine does_value ho hw (v:=.bool true) ?_ rfl (Below.refl _ _)
 generalize c.eval=ρ at *
 clear hF hb hW hw ho
 go_simp
theorem oGK26_10 (A Z M X:Nat) (g0 g1 g2 g3 z0 z1 z2 z3 m0 m1 m2 m3:Value) (g:GraphP) (Q:Exit→Act→World→Prop) (c:Act) (w:World) (hb:BaseGK26 A Z M X g0 g1 g2 g3 z0 z1 z2 z3 m0 m1 m2 m3 g c) (hW:WorldGK26 A Z M X g0 g1 g2 g3 z0 z1 z2 z3 m0 m1 m2 m3 g w) (hF:∀ q0 ∈ ancGK26 10,factsAt (factsGK26 A Z M X g0 g1 g2 g3 z0 z1 z2 z3 m0 m1 m2 m3 g) q0 (val RGK26 c q0) w) :
  Does Tryz.prog RGK26 Q (factsAt (factsGK26 A Z M X g0 g1 g2 g3 z0 z1 z2 z3 m0 m1 m2 m3 g)) 10 c w:=by
 have ho:RGK26[10]?=some (⟨some 122,.call { callee:=.value (.func 10),args:=#[],argTypes:=#[] },4, "law.go:278",#[⟨9,.chain⟩,⟨9,.guard⟩],some (9,true)⟩:Oper):=by kernel_rfl
 have hg:val RGK26 c 9=.bool true:=hF 9 (by decide)
 have hw:Region.wanted (⟨some 122,.call { callee:=.value (.func 10),args:=#[],argTypes:=#[] },4, "law.go:278",#[⟨9,.chain⟩,⟨9,.guard⟩],some (9,true)⟩:Oper) (yielded RGK26 c.tmps)=true:=want_eq rfl hg
 have ec:=evc c
 have ef:=evf c
 refine does_call ho hw (f:=10) (args:=#[]) ?_ (Calls.mono (hW.k10) fun e w' ⟨h1,h2⟩=>⟨_,h1,rfl,h2⟩)
 generalize c.eval=ρ at *
 clear hF hb hW hw ho hg
 go_simp
theorem oGK26_11 (A Z M X:Nat) (g0 g1 g2 g3 z0 z1 z2 z3 m0 m1 m2 m3:Value) (g:GraphP) (Q:Exit→Act→World→Prop) (c:Act) (w:World) (hb:BaseGK26 A Z M X g0 g1 g2 g3 z0 z1 z2 z3 m0 m1 m2 m3 g c) (hW:WorldGK26 A Z M X g0 g1 g2 g3 z0 z1 z2 z3 m0 m1 m2 m3 g w) (hF:∀ q0 ∈ ancGK26 11,factsAt (factsGK26 A Z M X g0 g1 g2 g3 z0 z1 z2 z3 m0 m1 m2 m3 g) q0 (val RGK26 c q0) w) :
  Does Tryz.prog RGK26 Q (factsAt (factsGK26 A Z M X g0 g1 g2 g3 z0 z1 z2 z3 m0 m1 m2 m3 g)) 11 c w:=by
 have ho:RGK26[11]?=some (⟨some 123,.pick (.tmp 121) (.tmp 122) (.const (Value.bool false)),4, "law.go:278",#[⟨9,.data⟩,⟨10,.data⟩],none⟩:Oper):=by kernel_rfl
 have e121:c.eval (.tmp 121)=.bool true:=fact_eq (by kernel_rfl) rfl (hF 9 (by decide))
 have e122:c.eval (.tmp 122)=.bool true:=fact_eq (by kernel_rfl) rfl (hF 10 (by decide))
 have hw:Region.wanted (⟨some 123,.pick (.tmp 121) (.tmp 122) (.const (Value.bool false)),4, "law.go:278",#[⟨9,.data⟩,⟨10,.data⟩],none⟩:Oper) (yielded RGK26 c.tmps)=true:=want_none rfl
 have ec:=evc c
 have ef:=evf c
 refine does_value ho hw (v:=.bool true) ?_ rfl (Below.refl _ _)
 generalize c.eval=ρ at *
 clear hF hb hW hw ho
 go_simp
theorem oGK26_12 (A Z M X:Nat) (g0 g1 g2 g3 z0 z1 z2 z3 m0 m1 m2 m3:Value) (g:GraphP) (Q:Exit→Act→World→Prop) (c:Act) (w:World) (hb:BaseGK26 A Z M X g0 g1 g2 g3 z0 z1 z2 z3 m0 m1 m2 m3 g c) (hW:WorldGK26 A Z M X g0 g1 g2 g3 z0 z1 z2 z3 m0 m1 m2 m3 g w) (hF:∀ q0 ∈ ancGK26 12,factsAt (factsGK26 A Z M X g0 g1 g2 g3 z0 z1 z2 z3 m0 m1 m2 m3 g) q0 (val RGK26 c q0) w) :
  Does Tryz.prog RGK26 Q (factsAt (factsGK26 A Z M X g0 g1 g2 g3 z0 z1 z2 z3 m0 m1 m2 m3 g)) 12 c w:=by
 have ho:RGK26[12]?=some (⟨some 4,.assign (.tmp 123),4, "law.go:278",#[⟨11,.data⟩,⟨10,.chain⟩,⟨0,.phase⟩,⟨1,.phase⟩,⟨2,.phase⟩,⟨3,.phase⟩,⟨4,.phase⟩,⟨5,.phase⟩,⟨6,.phase⟩,⟨7,.phase⟩,⟨8,.phase⟩,⟨9,.phase⟩,⟨10,.phase⟩,⟨11,.phase⟩],none⟩:Oper):=by kernel_rfl
 have e123:c.eval (.tmp 123)=.bool true:=fact_eq (by kernel_rfl) rfl (hF 11 (by decide))
 have hw:Region.wanted (⟨some 4,.assign (.tmp 123),4, "law.go:278",#[⟨11,.data⟩,⟨10,.chain⟩,⟨0,.phase⟩,⟨1,.phase⟩,⟨2,.phase⟩,⟨3,.phase⟩,⟨4,.phase⟩,⟨5,.phase⟩,⟨6,.phase⟩,⟨7,.phase⟩,⟨8,.phase⟩,⟨9,.phase⟩,⟨10,.phase⟩,⟨11,.phase⟩],none⟩:Oper) (yielded RGK26 c.tmps)=true:=want_none rfl
 have ec:=evc c
 have ef:=evf c
 refine does_value ho hw (v:=.bool true) ?_ rfl (Below.refl _ _)
 generalize c.eval=ρ at *
 clear hF hb hW hw ho
 go_simp
theorem stableGK26 (A Z M X:Nat) (g0 g1 g2 g3 z0 z1 z2 z3 m0 m1 m2 m3:Value) (g:GraphP):∀ pr ∈ factsGK26 A Z M X g0 g1 g2 g3 z0 z1 z2 z3 m0 m1 m2 m3 g,Stable pr:=by
 unfold factsGK26
 refine List.forall_mem_cons.2 ⟨eqv_stable _,?_⟩
 refine List.forall_mem_cons.2 ⟨fun v w w' h hb=>(h.below hb).mono hb.size,?_⟩
 refine List.forall_mem_cons.2 ⟨eqv_stable _,?_⟩
 refine List.forall_mem_cons.2 ⟨eqv_stable _,?_⟩
 refine List.forall_mem_cons.2 ⟨eqv_stable _,?_⟩
 refine List.forall_mem_cons.2 ⟨eqv_stable _,?_⟩
 refine List.forall_mem_cons.2 ⟨eqv_stable _,?_⟩
 refine List.forall_mem_cons.2 ⟨eqv_stable _,?_⟩
 refine List.forall_mem_cons.2 ⟨eqv_stable _,?_⟩
 refine List.forall_mem_cons.2 ⟨eqv_stable _,?_⟩
 refine List.forall_mem_cons.2 ⟨eqv_stable _,?_⟩
 refine List.forall_mem_cons.2 ⟨eqv_stable _,?_⟩
 refine List.forall_mem_cons.2 ⟨eqv_stable _,?_⟩
 exact List.forall_mem_nil _
theorem allGK26 (A Z M X:Nat) (g0 g1 g2 g3 z0 z1 z2 z3 m0 m1 m2 m3:Value) (g:GraphP) (Q:Exit→Act→World→Prop):∀ i,i<13→(fun i=>∀ c w,BaseGK26 A Z M X g0 g1 g2 g3 z0 z1 z2 z3 m0 m1 m2 m3 g c→WorldGK26 A Z M X g0 g1 g2 g3 z0 z1 z2 z3 m0 m1 m2 m3 g w→(∀ q0 ∈ ancGK26 i,factsAt (factsGK26 A Z M X g0 g1 g2 g3 z0 z1 z2 z3 m0 m1 m2 m3 g) q0 (val RGK26 c q0) w)→Does Tryz.prog RGK26 Q (factsAt (factsGK26 A Z M X g0 g1 g2 g3 z0 z1 z2 z3 m0 m1 m2 m3 g)) i c w) i:=by
 refine below_succ ?_ (fun c w=>oGK26_12 A Z M X g0 g1 g2 g3 z0 z1 z2 z3 m0 m1 m2 m3 g Q c w)
 refine below_succ ?_ (fun c w=>oGK26_11 A Z M X g0 g1 g2 g3 z0 z1 z2 z3 m0 m1 m2 m3 g Q c w)
 refine below_succ ?_ (fun c w=>oGK26_10 A Z M X g0 g1 g2 g3 z0 z1 z2 z3 m0 m1 m2 m3 g Q c w)
 refine below_succ ?_ (fun c w=>oGK26_9 A Z M X g0 g1 g2 g3 z0 z1 z2 z3 m0 m1 m2 m3 g Q c w)
 refine below_succ ?_ (fun c w=>oGK26_8 A Z M X g0 g1 g2 g3 z0 z1 z2 z3 m0 m1 m2 m3 g Q c w)
 refine below_succ ?_ (fun c w=>oGK26_7 A Z M X g0 g1 g2 g3 z0 z1 z2 z3 m0 m1 m2 m3 g Q c w)
 refine below_succ ?_ (fun c w=>oGK26_6 A Z M X g0 g1 g2 g3 z0 z1 z2 z3 m0 m1 m2 m3 g Q c w)
 refine below_succ ?_ (fun c w=>oGK26_5 A Z M X g0 g1 g2 g3 z0 z1 z2 z3 m0 m1 m2 m3 g Q c w)
 refine below_succ ?_ (fun c w=>oGK26_4 A Z M X g0 g1 g2 g3 z0 z1 z2 z3 m0 m1 m2 m3 g Q c w)
 refine below_succ ?_ (fun c w=>oGK26_3 A Z M X g0 g1 g2 g3 z0 z1 z2 z3 m0 m1 m2 m3 g Q c w)
 refine below_succ ?_ (fun c w=>oGK26_2 A Z M X g0 g1 g2 g3 z0 z1 z2 z3 m0 m1 m2 m3 g Q c w)
 refine below_succ ?_ (fun c w=>oGK26_1 A Z M X g0 g1 g2 g3 z0 z1 z2 z3 m0 m1 m2 m3 g Q c w)
 refine below_succ ?_ (fun c w=>oGK26_0 A Z M X g0 g1 g2 g3 z0 z1 z2 z3 m0 m1 m2 m3 g Q c w)
 exact below_zero
theorem regionGK26 (A Z M X:Nat) (g0 g1 g2 g3 z0 z1 z2 z3 m0 m1 m2 m3:Value) (g:GraphP) (Q:Exit→Act→World→Prop) (base:Act) (w0:World) (hsz:base.tmps.size=124) (hb:BaseGK26 A Z M X g0 g1 g2 g3 z0 z1 z2 z3 m0 m1 m2 m3 g base)
  (hW:∀ w,Below w0.heap.size w0 w→WorldGK26 A Z M X g0 g1 g2 g3 z0 z1 z2 z3 m0 m1 m2 m3 g w) (hQ:∀ c w,Same RGK26 base c→Below w0.heap.size w0 w→c.eval (.tmp 4)=.bool true→Q .normal c w):(Code.region 26 RGK26 true).wp Tryz.prog Q base w0:=by
 refine facts_rule (A:=ancGK26) (F:=factsAt (factsGK26 A Z M X g0 g1 g2 g3 z0 z1 z2 z3 m0 m1 m2 m3 g)) (by kernel_rfl) (by rw [hsz];kernel_rfl) (fun i v w w'=>factsAt_stable (stableGK26 A Z M X g0 g1 g2 g3 z0 z1 z2 z3 m0 m1 m2 m3 g) i v w w') ?_ ?_
 ·intro i hi c w hS hB hF
  exact allGK26 A Z M X g0 g1 g2 g3 z0 z1 z2 z3 m0 m1 m2 m3 g Q i (by rwa [show RGK26.size=13 by kernel_rfl] at hi) c w ⟨(same_eval hS (by kernel_rfl)).trans hb.t2,(same_eval hS (by kernel_rfl)).trans hb.t5,(same_eval hS (by kernel_rfl)).trans hb.t8,(same_eval hS (by kernel_rfl)).trans hb.t6⟩ (hW w hB) hF
 ·intro c w hS hB hF
  exact hQ c w hS hB (fact_at (p:=eqv (.bool true)) (by kernel_rfl) rfl (hF 12 (by rw [show RGK26.size=13 by kernel_rfl];omega)))
end Go.Proofs.YteddjlbfbpecjaaGreatDoor
