/- A statement that reads and calls, in whatever order. Drop: what is attached stays; a node, a relationship goes. What Check does with a panic: the function that it defers. Check: whether a value may be, and is not too great. -/
import Derived.Test.YteddjlbfbpecjaaGreatDoorJoin2
import Derived.Test.YteddjlbfbpecjaaGreatDoorJoin1
import Derived.Test.YteddjlbfbpecjaaGreatDoorJoin12
import Derived.Test.YteddjlbfbpecjaaGreatDoorJoin5
import Derived.RecoverIn
import Derived.LaidEql
import Derived.WideLaws
namespace Go.Proofs.YteddjlbfbpecjaaGreatDoor
open Go.RowKit Go.WideShapes Go.Shelf
set_option linter.unusedVariables false
set_option linter.unusedSimpArgs false
noncomputable def RDR5  : Array Oper:=regionAt Tryz.f33 5
def LDR5  : List Sig:=[⟨18,.move (.tmp 1),4,none⟩,⟨19,.unOp .not 4 (.tmp 18),4,none⟩,⟨20,.move (.tmp 19),4,none⟩,⟨21,.move (.tmp 0),31,some (2,true)⟩,⟨22,.nilCheck (.tmp 21),0,some (2,true)⟩,⟨23,.fieldAddr 74 (.tmp 22) 1,0,some (2,true)⟩,⟨24,.load 72 (.tmp 23),72,some (2,true)⟩,⟨25,.move (.tmp 2),2,some (2,true)⟩,⟨26,.lookup 72 (.tmp 24) (.tmp 25) false,100,some (2,true)⟩,⟨27,.call { callee:=.builtin .len,args:=#[.tmp 26],argTypes:=#[100] },3,some (2,true)⟩,⟨28,.move (.tmp 0),31,some (2,true)⟩,⟨29,.nilCheck (.tmp 28),0,some (2,true)⟩,⟨30,.fieldAddr 74 (.tmp 29) 2,0,some (2,true)⟩,⟨31,.load 72 (.tmp 30),72,some (2,true)⟩,⟨32,.move (.tmp 2),2,some (2,true)⟩,⟨33,.lookup 72 (.tmp 31) (.tmp 32) false,100,some (2,true)⟩,⟨34,.call { callee:=.builtin .len,args:=#[.tmp 33],argTypes:=#[100] },3,some (2,true)⟩,⟨35,.binOp .add 3 (.tmp 27) (.tmp 34) 3,3,some (2,true)⟩,⟨36,.binOp .gtr 3 (.tmp 35) (.const (.int .i64 0)) 3,4,some (2,true)⟩,⟨37,.pick (.tmp 20) (.tmp 36) (.const (.bool false)),4,none⟩,⟨17,.assign (.tmp 37),4,none⟩]
theorem hLDR5  : sigsOf RDR5=LDR5.map some:=by kernel_rfl
def ADR5  : List (List Nat):=[[],[0],[1],[2],[2,3],[2,4],[2,5],[2],[2,6,7],[2,8],[2],[2,10],[2,11],[2,12],[2],[2,13,14],[2,15],[2,9,16],[2,17],[2,18],[19]]
def VDR5 (p:GP) (id:Int) (fa ta:Option Addr) (fl fc tl tc:Nat) (b:Bool):List Value:=[.bool false,.bool true,.bool true,.pointer (some ⟨p.g,0,none⟩),.pointer (some ⟨p.g,0,none⟩),.pointer (some ⟨p.g,4,none⟩),.map (some p.f),.int .i64 id,.slice fa fl fc,.int .i64 (fl:Int),.pointer (some ⟨p.g,0,none⟩),.pointer (some ⟨p.g,0,none⟩),.pointer (some ⟨p.g,5,none⟩),.map (some p.t),.int .i64 id,.slice ta tl tc,.int .i64 (tl:Int),.int .i64 ((fl:Int)+(tl:Int)),.bool b,.bool b,.bool b]
structure BaseDR5 (p:GP) (id:Int) (fa ta:Option Addr) (fl fc tl tc:Nat) (b:Bool) (c:Act):Prop where
 t0:c.eval (.tmp 0)=.pointer (some ⟨p.g,0,none⟩)
 t1:c.eval (.tmp 1)=.bool false
 t2:c.eval (.tmp 2)=.int .i64 id
structure WorldDR5 (p:GP) (id:Int) (fa ta:Option Addr) (fl fc tl tc:Nat) (b:Bool) (w:World):Prop where
 c4:w.cell? ⟨p.g,4,none⟩=some (.map (some p.f))
 c5:w.cell? ⟨p.g,5,none⟩=some (.map (some p.t))
 l4:(Instr.lookup 72 (.map (some p.f)) (.int .i64 id) false).run Tryz.prog w=.ok (.slice fa fl fc) w
 l5:(Instr.lookup 72 (.map (some p.t)) (.int .i64 id) false).run Tryz.prog w=.ok (.slice ta tl tc) w
 kw:IntKind.i64.wrap ((fl:Int)+(tl:Int))=(fl:Int)+(tl:Int)
 kg:decide ((0:Int)<(fl:Int)+(tl:Int))=b
set_option maxRecDepth 100000 in
set_option maxHeartbeats 4000000 in
theorem regionDR5 (p:GP) (id:Int) (fa ta:Option Addr) (fl fc tl tc:Nat) (b:Bool) (Q:Exit→Act→World→Prop) (base:Act) (w0:World) (hsz:base.tmps.size=60) (hb:BaseDR5 p id fa ta fl fc tl tc b base)
  (hW:∀ w,Below w0.heap.size w0 w→WorldDR5 p id fa ta fl fc tl tc b w) (hQ:∀ c w,Same RDR5 base c→Below w0.heap.size w0 w→c.eval (.tmp 17)=.bool b→Q .normal c w):(Code.region 5 RDR5 true).wp Tryz.prog Q base w0:=by
 refine told_rule (B:=BaseDR5 p id fa ta fl fc tl tc b) (T:=WorldDR5 p id fa ta fl fc tl tc b) (n:=21) (k:=20) LDR5 ADR5 (VDR5 p id fa ta fl fc tl tc b) hLDR5 rfl (by kernel_rfl) (by kernel_rfl) (by kernel_rfl) (by rw [hsz];kernel_rfl) (fun c hS=>⟨(same_eval hS (by kernel_rfl)).trans hb.t0,(same_eval hS (by kernel_rfl)).trans hb.t1,(same_eval hS (by kernel_rfl)).trans hb.t2⟩) hW ?_ (by decide) rfl rfl hQ
 clear hsz hb hW hQ
 iterate 21 (refine below_succ ?_ (by
  intro c w hb hW hEq
  obtain ⟨t0,t1,t2⟩:=hb
  obtain ⟨c4,c5,l4,l5,kw,kg⟩:=hW
  have ec:=evc c
  have ef:=evf c
  dsimp only [ADR5,LDR5,VDR5,nth,EqAt,look,OpGoal] at hEq ⊢
  first
  | exact ⟨by first | exact hEq.1 | exact hEq.2.1 | exact hEq.2.2.1 | exact hEq.2.2.2.1,.inr ⟨.inl rfl,rfl⟩⟩
  | exact ⟨by first | exact hEq.1 | exact hEq.2.1 | exact hEq.2.2.1 | exact hEq.2.2.2.1,.inr ⟨.inr rfl,rfl⟩⟩
  | ((try refine ⟨by first | exact hEq.1 | exact hEq.2.1 | exact hEq.2.2.1 | exact hEq.2.2.2.1,.inl ⟨rfl,?_⟩⟩);first | (refine .inl fun pos af=>?_;(dsimp only [Sig.oper];generalize c.eval=ρ at *;go_simp;done)))))
 exact below_zero
end Go.Proofs.YteddjlbfbpecjaaGreatDoor

namespace Go.Proofs.YteddjlbfbpecjaaGreatDoor
open Go.RowKit Go.Shelf
set_option maxHeartbeats 8000000
set_option maxRecDepth 100000
set_option linter.unusedVariables false
set_option linter.unusedSimpArgs false
attribute [local go_sem] Oper.semAt_some
def Looks (b:Nat) (es:List (Int × Value)) (k:Int) (a:Option Addr) (n c:Nat):Prop:=∀ W,MI W b es→(Instr.lookup 72 (.map (some b)) (.int .i64 k) false).run Tryz.prog W=.ok (.slice a n c) W
theorem drop_attached {w:World} {p:GP} {nn nr:Int} {N R F T:List (Int × Value)} (h:GS w p nn nr N R F T) (hN:Uniq N) (hR:Uniq R) (hn:∀ q ∈ N,NodeV q.2) (hr:∀ q ∈ R,RelV q.2) (id:Int) (hid:I64 id) (hid1:hasB id N=true)
  (fa ta:Option Addr) (fl fc tl tc:Nat) (lf:Looks p.f F id fa fl fc) (lt:Looks p.t T id ta tl tc) (hpos:0<fl+tl) (hfl:fl≤2000000) (htl:tl≤2000000) :
  Calls Tryz.prog 33 #[p.val,.bool false,.int .i64 id] w fun e w'=>e=.returned (.int .i64 150)∧Below w.heap.size w w':=by
 have HG:=hidE h
 have HTh:=hidE (there_yes h)
 have HH:=hidE (has_node h hN hR hn hr id hid true hid1)
 have HLF:=hidE lf
 have HLT:=hidE lt
 clear h hN hR hn hr hid1 lf lt
 unfold GP.val at HTh ⊢
 go_enter Tryz.func33,Tryz.ntmps33
 go_wp2_with fail
 refine HTh.out.mono ?_
 rintro e w1 ⟨rfl,hw1⟩
 rw [hw1]
 clear hw1 HTh
 go_wp2_with fail
 refine HH.out.mono ?_
 rintro e w2 ⟨rfl,hb2⟩
 have HB2:=hidE hb2
 have HG2:=hidE (HG.out.below hb2)
 clear hb2 HH
 go_upto_region 5 with fail
 show (Code.region 5 RDR5 true).wp _ _ _ _
 refine regionDR5 p id fa ta fl fc tl tc true _ _ _ rfl ⟨rfl,rfl,rfl⟩ ?_ ?_
 ·intro W hW
  exact ⟨(hW.cell (p:=⟨p.g,4,none⟩) HG2.out.obj.lt).trans HG2.out.c4,(hW.cell (p:=⟨p.g,5,none⟩) HG2.out.obj.lt).trans HG2.out.c5,HLF.out W (HG2.out.f.below hW (Nat.le_refl _)),HLT.out W (HG2.out.t.below hW (Nat.le_refl _)),by rw [IntKind.wrap_i64];omega,by simp;omega⟩
 intro c W3 hS hB3 e17
 rw [same_put hS [18,19,20,21,22,23,24,25,26,27,28,29,30,31,32,33,34,35,36,37,17] (by kernel_rfl)]
 obtain ⟨y18,q18⟩:∃ y,c.eval (.tmp 18)=y:=⟨_,rfl⟩
 obtain ⟨y19,q19⟩:∃ y,c.eval (.tmp 19)=y:=⟨_,rfl⟩
 obtain ⟨y20,q20⟩:∃ y,c.eval (.tmp 20)=y:=⟨_,rfl⟩
 obtain ⟨y21,q21⟩:∃ y,c.eval (.tmp 21)=y:=⟨_,rfl⟩
 obtain ⟨y22,q22⟩:∃ y,c.eval (.tmp 22)=y:=⟨_,rfl⟩
 obtain ⟨y23,q23⟩:∃ y,c.eval (.tmp 23)=y:=⟨_,rfl⟩
 obtain ⟨y24,q24⟩:∃ y,c.eval (.tmp 24)=y:=⟨_,rfl⟩
 obtain ⟨y25,q25⟩:∃ y,c.eval (.tmp 25)=y:=⟨_,rfl⟩
 obtain ⟨y26,q26⟩:∃ y,c.eval (.tmp 26)=y:=⟨_,rfl⟩
 obtain ⟨y27,q27⟩:∃ y,c.eval (.tmp 27)=y:=⟨_,rfl⟩
 obtain ⟨y28,q28⟩:∃ y,c.eval (.tmp 28)=y:=⟨_,rfl⟩
 obtain ⟨y29,q29⟩:∃ y,c.eval (.tmp 29)=y:=⟨_,rfl⟩
 obtain ⟨y30,q30⟩:∃ y,c.eval (.tmp 30)=y:=⟨_,rfl⟩
 obtain ⟨y31,q31⟩:∃ y,c.eval (.tmp 31)=y:=⟨_,rfl⟩
 obtain ⟨y32,q32⟩:∃ y,c.eval (.tmp 32)=y:=⟨_,rfl⟩
 obtain ⟨y33,q33⟩:∃ y,c.eval (.tmp 33)=y:=⟨_,rfl⟩
 obtain ⟨y34,q34⟩:∃ y,c.eval (.tmp 34)=y:=⟨_,rfl⟩
 obtain ⟨y35,q35⟩:∃ y,c.eval (.tmp 35)=y:=⟨_,rfl⟩
 obtain ⟨y36,q36⟩:∃ y,c.eval (.tmp 36)=y:=⟨_,rfl⟩
 obtain ⟨y37,q37⟩:∃ y,c.eval (.tmp 37)=y:=⟨_,rfl⟩
 obtain ⟨y17,q17⟩:∃ y,c.eval (.tmp 17)=y:=⟨_,rfl⟩
 simp only [List.foldl_cons,List.foldl_nil,q18,q19,q20,q21,q22,q23,q24,q25,q26,q27,q28,q29,q30,q31,q32,q33,q34,q35,q36,q37,q17]
 rw [e17] at q17
 subst q17
 clear q18 q19 q20 q21 q22 q23 q24 q25 q26 q27 q28 q29 q30 q31 q32 q33 q34 q35 q36 q37
 simp only [List.setIfInBounds_toArray,List.set_cons_succ,List.set_cons_zero]
 clear e17 hS
 have HB3:=hidE (below_on HB2.out hB3)
 clear hB3
 go_wp2_with fail
 go_ret
 exact ⟨rfl,HB3.out⟩
theorem drop_node {w:World} {p:GP} {nn nr:Int} {N R F T:List (Int × Value)} (h:GS w p nn nr N R F T) (B:Nat) (hok:p.Ok B) (hB:B≤w.heap.size) (hN:Uniq N) (hR:Uniq R) (hn:∀ q ∈ N,NodeV q.2) (hr:∀ q ∈ R,RelV q.2) (id:Int) (hid:I64 id) (hid1:hasB id N=true)
  (fa ta:Option Addr) (fl fc tl tc:Nat) (lf:Looks p.f F id fa fl fc) (lt:Looks p.t T id ta tl tc) (hfl:fl=0) (htl:tl=0) (j:Nat) (v0:Value) (hj:N[j]?=some (id,v0)) (huj:∀ a q,N[a]?=some q→q.1=id→a=j) :
  Calls Tryz.prog 33 #[p.val,.bool false,.int .i64 id] w fun e w'=>e=.returned (.int .i64 0)∧GS w' p nn nr (N.eraseIdx j) R F T∧Below B w w':=by
 have HG:=hidE h
 have HTh:=hidE (there_yes h)
 have HH:=hidE (has_node h hN hR hn hr id hid true hid1)
 have HLF:=hidE lf
 have HLT:=hidE lt
 have HOK:=hidE hok
 have HJ:=hidE (And.intro hj huj)
 clear h hN hR hn hr hid1 lf lt hok hj huj
 unfold GP.val at HTh ⊢
 go_enter Tryz.func33,Tryz.ntmps33
 go_wp2_with fail
 refine HTh.out.mono ?_
 rintro e w1 ⟨rfl,hw1⟩
 rw [hw1]
 clear hw1 HTh
 go_wp2_with fail
 refine HH.out.mono ?_
 rintro e w2 ⟨rfl,hb2⟩
 have HB2:=hidE hb2
 have HG2:=hidE (HG.out.below hb2)
 clear hb2 HH
 go_upto_region 5 with fail
 show (Code.region 5 RDR5 true).wp _ _ _ _
 refine regionDR5 p id fa ta fl fc tl tc false _ _ _ rfl ⟨rfl,rfl,rfl⟩ ?_ ?_
 ·intro W hW
  exact ⟨(hW.cell (p:=⟨p.g,4,none⟩) HG2.out.obj.lt).trans HG2.out.c4,(hW.cell (p:=⟨p.g,5,none⟩) HG2.out.obj.lt).trans HG2.out.c5,HLF.out W (HG2.out.f.below hW (Nat.le_refl _)),HLT.out W (HG2.out.t.below hW (Nat.le_refl _)),by rw [IntKind.wrap_i64];omega,by simp;omega⟩
 intro c W3 hS hB3 e17
 rw [same_put hS [18,19,20,21,22,23,24,25,26,27,28,29,30,31,32,33,34,35,36,37,17] (by kernel_rfl)]
 obtain ⟨y18,q18⟩:∃ y,c.eval (.tmp 18)=y:=⟨_,rfl⟩
 obtain ⟨y19,q19⟩:∃ y,c.eval (.tmp 19)=y:=⟨_,rfl⟩
 obtain ⟨y20,q20⟩:∃ y,c.eval (.tmp 20)=y:=⟨_,rfl⟩
 obtain ⟨y21,q21⟩:∃ y,c.eval (.tmp 21)=y:=⟨_,rfl⟩
 obtain ⟨y22,q22⟩:∃ y,c.eval (.tmp 22)=y:=⟨_,rfl⟩
 obtain ⟨y23,q23⟩:∃ y,c.eval (.tmp 23)=y:=⟨_,rfl⟩
 obtain ⟨y24,q24⟩:∃ y,c.eval (.tmp 24)=y:=⟨_,rfl⟩
 obtain ⟨y25,q25⟩:∃ y,c.eval (.tmp 25)=y:=⟨_,rfl⟩
 obtain ⟨y26,q26⟩:∃ y,c.eval (.tmp 26)=y:=⟨_,rfl⟩
 obtain ⟨y27,q27⟩:∃ y,c.eval (.tmp 27)=y:=⟨_,rfl⟩
 obtain ⟨y28,q28⟩:∃ y,c.eval (.tmp 28)=y:=⟨_,rfl⟩
 obtain ⟨y29,q29⟩:∃ y,c.eval (.tmp 29)=y:=⟨_,rfl⟩
 obtain ⟨y30,q30⟩:∃ y,c.eval (.tmp 30)=y:=⟨_,rfl⟩
 obtain ⟨y31,q31⟩:∃ y,c.eval (.tmp 31)=y:=⟨_,rfl⟩
 obtain ⟨y32,q32⟩:∃ y,c.eval (.tmp 32)=y:=⟨_,rfl⟩
 obtain ⟨y33,q33⟩:∃ y,c.eval (.tmp 33)=y:=⟨_,rfl⟩
 obtain ⟨y34,q34⟩:∃ y,c.eval (.tmp 34)=y:=⟨_,rfl⟩
 obtain ⟨y35,q35⟩:∃ y,c.eval (.tmp 35)=y:=⟨_,rfl⟩
 obtain ⟨y36,q36⟩:∃ y,c.eval (.tmp 36)=y:=⟨_,rfl⟩
 obtain ⟨y37,q37⟩:∃ y,c.eval (.tmp 37)=y:=⟨_,rfl⟩
 obtain ⟨y17,q17⟩:∃ y,c.eval (.tmp 17)=y:=⟨_,rfl⟩
 simp only [List.foldl_cons,List.foldl_nil,q18,q19,q20,q21,q22,q23,q24,q25,q26,q27,q28,q29,q30,q31,q32,q33,q34,q35,q36,q37,q17]
 rw [e17] at q17
 subst q17
 clear q18 q19 q20 q21 q22 q23 q24 q25 q26 q27 q28 q29 q30 q31 q32 q33 q34 q35 q36 q37
 simp only [List.setIfInBounds_toArray,List.set_cons_succ,List.set_cons_zero]
 clear e17 hS
 have HB3:=hidE (below_on HB2.out hB3)
 have HG3:=hidE (HG.out.below HB3.out)
 clear hB3 HB2 HG2
 obtain ⟨o1,o2,o3,o4,o5,n1,n2,n3,n4,n5,n6,n7,n8,n9,n10⟩:=HOK.out
 obtain ⟨w4,hdel,hm4,hs4,ho4,hb4⟩:=mi_del (ty:=0) Tryz.underlying68' HG3.out.n j id v0 hid HJ.out.1 HJ.out.2
 have HG4:Hid (GS w4 p nn nr (N.eraseIdx j) R F T):=⟨HG3.out.obj.keep (ho4 _ n1),hm4,HG3.out.r.block (ho4 _ (Ne.symm n5)),HG3.out.f.block (ho4 _ (Ne.symm n6)),HG3.out.t.block (ho4 _ (Ne.symm n7))⟩
 have HB4:Hid (Below B w w4):=(HB3.out.mono hB).trans (hb4.mono o2)
 have c0:=HG3.out.c0
 clear hm4 hs4 ho4 hb4
 go_wp2_with fail
 go_ret
 exact ⟨rfl,HG4.out,HB4.out⟩
theorem has_rel {w:World} {p:GP} {nn nr:Int} {N R F T:List (Int × Value)} (h:GS w p nn nr N R F T) (hN:Uniq N) (hR:Uniq R) (hn:∀ q ∈ N,NodeV q.2) (hr:∀ q ∈ R,RelV q.2) (k:Int) (hk:I64 k) (b:Bool) (hb:hasB k R=b) :
  Calls Tryz.prog 91 #[.pointer (some ⟨p.g,0,none⟩),.bool true,.int .i64 k] w fun e w'=>e=.returned (.bool b)∧Below w.heap.size w w':=by
 have:=has_any h hN hR hn hr true k hk
 simpa [hb,GP.val] using this
theorem drop_rel {w:World} {p:GP} {nn nr:Int} {N R F T:List (Int × Value)} (h:GS w p nn nr N R F T) (B:Nat) (hok:p.Ok B) (hB:B≤w.heap.size) (hN:Uniq N) (hR:Uniq R) (hn:∀ q ∈ N,NodeV q.2) (hr:∀ q ∈ R,RelV q.2) (id f t:Int) (s:ByteArray) (pa:Option Addr) (pn pc:Nat) (hid:I64 id) (hf:I64 f) (ht:I64 t) (hid1:hasB id R=true)
  (F' T':List (Int × Value)) (m:Nat) (hm:R[m]?=some (id,.agg #[.int .i64 id,.int .i64 f,.int .i64 t,.string s,.slice pa pn pc])) (hum:∀ a q,R[a]?=some q→q.1=id→a=m)
  (hdet:∀ W,Below w.heap.size w W→Calls Tryz.prog 92 #[p.val,.agg #[.int .i64 id,.int .i64 f,.int .i64 t,.string s,.slice pa pn pc]] W fun e w'=>e=.returned (.tuple #[])∧GS w' p nn nr N R F' T'∧Below B W w') :
  Calls Tryz.prog 33 #[p.val,.bool true,.int .i64 id] w fun e w'=>e=.returned (.int .i64 0)∧GS w' p nn nr N (R.eraseIdx m) F' T'∧Below B w w':=by
 have HG:=hidE h
 have HTh:=hidE (there_yes h)
 have HH:=hidE (has_rel h hN hR hn hr id hid true hid1)
 have HOK:=hidE hok
 have HJ:=hidE (And.intro hm hum)
 have HDe:=hidE hdet
 have HHit:Hid (∀ W,MI W p.r R→(Instr.lookup 69 (.map (some p.r)) (.int .i64 id) false).run Tryz.prog W=.ok (.agg #[.int .i64 id,.int .i64 f,.int .i64 t,.string s,.slice pa pn pc]) W):=fun W hW =>
  (mi_hit (z:=.agg #[.int .i64 0,.int .i64 0,.int .i64 0,.string ⟨#[]⟩,.slice none 0 0]) Tryz.underlying69' hW id _ hid (List.mem_of_getElem? hm) (fun q hq e=>hR q hq _ (List.mem_of_getElem? hm) e)).2
 clear h hN hR hn hr hid1 hok hm hum hdet
 unfold GP.val at HDe
 unfold GP.val at HTh ⊢
 go_enter Tryz.func33,Tryz.ntmps33
 go_wp2_with fail
 refine HTh.out.mono ?_
 rintro e w1 ⟨rfl,hw1⟩
 rw [hw1]
 clear hw1 HTh
 go_wp2_with fail
 refine HH.out.mono ?_
 rintro e w2 ⟨rfl,hb2⟩
 have HB2:=hidE hb2
 have HG2:=hidE (HG.out.below hb2)
 clear hb2 HH
 have hq5:Hid (Below w.heap.size w w2):=HB2
 go_upto_region 5 with fail
 go_quiet (fail)
 obtain ⟨w3,hw3⟩:∃ w3,w2.drewN nq=w3:=⟨_,rfl⟩
 have hd3:Below w2.heap.size w2 w3:=by rw [← hw3];exact ⟨rfl,rfl,rfl,Nat.le_refl _,fun _ _=>rfl⟩
 have HG3:=hidE (HG2.out.below hd3)
 have HB3:=hidE (below_on HB2.out hd3)
 rw [hw3]
 clear HG2 HB2 hq5 hd3 hw3
 have c1:=HG3.out.c1
 have lk:=HHit.out w3 HG3.out.r
 go_wp2_with fail
 refine (HDe.out w3 HB3.out).mono ?_
 rintro e w4 ⟨rfl,hg4,hb4⟩
 have HG4:=hidE hg4
 have HB4:=hidE ((HB3.out.mono hB).trans hb4)
 clear hg4 hb4 c1 lk
 obtain ⟨o1,o2,o3,o4,o5,n1,n2,n3,n4,n5,n6,n7,n8,n9,n10⟩:=HOK.out
 obtain ⟨w5,hdel,hm5,hs5,ho5,hb5⟩:=mi_del (ty:=0) Tryz.underlying69' HG4.out.r m id _ hid HJ.out.1 HJ.out.2
 have HG5:Hid (GS w5 p nn nr N (R.eraseIdx m) F' T'):=⟨HG4.out.obj.keep (ho5 _ n2),HG4.out.n.block (ho5 _ n5),hm5,HG4.out.f.block (ho5 _ (Ne.symm n8)),HG4.out.t.block (ho5 _ (Ne.symm n9))⟩
 have HB5:Hid (Below B w w5):=HB4.out.trans (hb5.mono o3)
 have c1:=HG4.out.c1
 clear hm5 hs5 ho5 hb5
 go_wp2_with fail
 go_ret
 exact ⟨rfl,HG5.out,HB5.out⟩
end Go.Proofs.YteddjlbfbpecjaaGreatDoor

namespace Go.Proofs.YteddjlbfbpecjaaGreatDoor
open Go.RowKit Go.Shelf
set_option maxHeartbeats 1000000
set_option maxRecDepth 100000
set_option linter.unusedVariables false
theorem under20  : ∃ ms,Tryz.prog.underlying 20=some (.interface ms):=⟨_,Tryz.underlying20⟩
theorem comp41  : (Tryz.prog.info? 28).map (·.comparable)=some true:=by kernel_rfl
theorem eq_long (w:World):(binOp .eql 20 (.iface 28 (.int .i64 3)) (.iface 28 (.int .i64 3))).run Tryz.prog w=.ok (.bool true) w:=by
 obtain ⟨ms,h20⟩:=under20
 have h41:∃ i,Tryz.prog.info? 28=some i∧i.comparable=true:=by
  have:=comp41
  cases h:Tryz.prog.info? 28 with
  | none=>rw [h] at this;cases this
  | some i=>rw [h] at this;exact ⟨i,rfl,by simpa using this⟩
 obtain ⟨i,hi,hc⟩:=h41
 have h:∀ d:Nat,(Op.equalIn (d+2) 20 (.iface 28 (.int .i64 3)) (.iface 28 (.int .i64 3))).run Tryz.prog w=.ok true w:=fun d=>by
  simp [Op.equalIn,run_underlying h20,run_underlying Tryz.underlying28,typeInfo,hi,hc]
 simp only [binOp]
 simp [Op.equal,Op.maxDepth,h 9998]
theorem catch_long (n:Nat) (p:Addr) (z:Int) (w:World) (hc:w.cell? p=some (.int .i64 z)) (hz:w.frozen? p=false) :
  CallsDIn Fence.wide n Tryz.prog 206 #[.pointer (some p)] (.panicking [{ v:=.iface 28 (.int .i64 3),recovered:=false }]) w fun e u' w' =>
   e=.returned (.tuple #[])∧u'=.panicking [{ v:=.iface 28 (.int .i64 3),recovered:=true }]∧w'=w.setCell p (.int .i64 3):=by
 have he:=eq_long w
 refine callsDIn_of_wpSIn Tryz.func206 rfl trivial fun c₀ cs hu=>?_
 apply wpSIn_seq
 apply wpSIn_region
 simp [wpOpsSIn,go_sem,recoverD,hu,Tryz.ntmps206,Exit.thenS,Oper.about,Fence.wide,Array.replicate_succ]
 refine wpSIn_of_wpIn rfl ?_
 gi_wp2
 exact ⟨rfl,_,rfl,_,(by simp [results,Tryz.results206]),rfl,rfl,rfl⟩
theorem catch_idle (n:Nat) (p:Addr) (w:World) :
  CallsDIn Fence.wide n Tryz.prog 206 #[.pointer (some p)] .returning w fun e u' w'=>e=.returned (.tuple #[])∧u'=.returning∧w'=w:=by
 have he:=run_eql_iface_nil_left (P:=Tryz.prog) w 28 (.int .i64 3) Tryz.underlying20
 have hne:=run_neq_nil_nil (P:=Tryz.prog) w 20 (by kernel_rfl)
 refine callsDIn_of_wpSIn Tryz.func206 rfl trivial fun c₀ cs hu=>?_
 apply wpSIn_seq
 apply wpSIn_region
 simp [wpOpsSIn,go_sem,recoverD,hu,Tryz.ntmps206,Exit.thenS,Oper.about,Fence.wide,Array.replicate_succ]
 refine wpSIn_of_wpIn rfl ?_
 gi_wp2
 cases c₀
 simp only at hu
 subst hu
 exact ⟨rfl,_,rfl,_,(by simp [results,Tryz.results206]),rfl,rfl,rfl⟩
end Go.Proofs.YteddjlbfbpecjaaGreatDoor

namespace Go.Proofs.YteddjlbfbpecjaaGreatDoor
open Go.RowKit Go.Shelf
set_option linter.unusedVariables false
attribute [local go_sem] Oper.semAt_some
theorem in_wide {F:Fence} {n:Nat} {P:Program} {f:FuncId} {args:Array Value} {w:World} {R:Ending→World→Prop} (hF:F=Fence.wide) (h:Calls P f args w R):CallsIn F n P f args w R:=by
 rw [hF];exact callsIn_wide.2 h
def checkN (T:Tree):Int:=if (T.pre 1).all (fun x=>shapedB x.2)=true then (if heavy 0 (T.pre 1)=true then 3 else 0) else 110
theorem weigh_calls (v:Value) (T:Tree) (w:World) (hv:Lies w.heap.size w v T) (hh:T.height<100000000) (hb:bytesOf (T.pre 1)<4611686018427387904) :
  Calls Tryz.prog 207 #[v] w fun e w'=>Below w.heap.size w w'∧((heavy 0 (T.pre 1)=false∧∃ x,e=.returned x)∨(heavy 0 (T.pre 1)=true∧e=.panicked [{ v:=.iface 28 (.int .i64 3),recovered:=false }])):=by
 refine CallsIn.calls (F:=Fence.list [207,204,236,237] none) (n:=0) ?_ ?_
 ·refine weigh_any rfl rfl (by simp [Fence.list]) (by simp [Fence.list]) (by simp [Fence.list]) (by simp [Fence.list]) ?_ 0 v T w hv hh hb
  intro f hf
  simp only [Fence.list,List.mem_cons,List.not_mem_nil,or_false] at hf
  rcases hf with rfl | rfl | rfl | rfl
  ·exact ⟨_,Tryz.func207⟩
  ·exact ⟨_,Tryz.func204⟩
  ·exact ⟨_,Tryz.func236⟩
  ·exact ⟨_,Tryz.func237⟩
 ·exact room_of_none rfl
set_option maxRecDepth 100000 in
set_option maxHeartbeats 1000000 in
theorem check_any (v:Value) (T:Tree) (w:World) (hv:Lies w.heap.size w v T) (hT:Tabs w) (hh:T.height<100000000) (hb:bytesOf (T.pre 1)<4611686018427387904) :
  Calls Tryz.prog 168 #[v] w fun e w'=>e=.returned (.int .i64 (checkN T))∧Below w.heap.size w w':=by
 refine (callsIn_wide (n:=0)).1 ?_
 obtain ⟨F,hF⟩:∃ F,F=Fence.wide:=⟨_,rfl⟩
 rw [← hF]
 have hd:F.depth=none:=by rw [hF];rfl
 have hro:F.round=none:=by rw [hF];rfl
 have hfn:∀ f,F.fn f:=by rw [hF];exact fun _=>trivial
 have HF:Hid (F=Fence.wide):=hF
 clear hF
 obtain ⟨k,b,n,s,ks,ts⟩:=T
 have hv0:=hv
 simp only [Lies] at hv
 obtain ⟨ka,kc,la,lc,rfl,⟨hs1,hs2,hs3,hs4,hs5⟩,hk,ht⟩:=hv
 refine callsIn_of_wp_marks Tryz.func168 rfl (hfn _) ?_ hro
 simp only [Tryz.ntmps168,List.size_toArray,List.length_cons,List.length_nil,Nat.reduceAdd,Nat.reduceSub,Array.replicate_succ,Array.replicate_zero,List.push_toArray,List.append_toArray,List.nil_append,List.cons_append]
 gi_wp2_with (gi_at_call 204;refine (within_any (hfn _) hro _ _ _ _ _ _ _ _ _ _ _ _).mono ?_;rintro e w' ⟨rfl,rfl⟩)
 refine range_wp hro hd (gf:=236) (lb:=#[.pointer (some ⟨w.heap.size+1+1,0,none⟩)]) rfl (hfn _) (enters_of Tryz.func236 (by kernel_rfl) rfl) ?_
 intro fn hfn0
 generalize hrec:Loop.mk _ _ _ _ _ _ _ _=rec
 simp only [World.size_alloc]
 generalize hW0:World.alloc _ (Obj.loop rec)=W0
 have hsz:W0.heap.size=w.heap.size+5:=by rw [← hW0];simp
 have b0:W0.heap[w.heap.size]?=some (.cells #[.int .i64 k,.bool b,.int .i64 n,.string s,.slice ka ks.length kc,.slice la ts.length lc] 60 (0,0)):=by rw [← hW0];simp only [heap_alloc_at,World.size_alloc];repeat (first | rw [if_pos trivial] | rw [if_pos (by omega)] | rw [if_neg (by omega)])
 have b1:W0.heap[w.heap.size+1]?=some (.cells #[.int .i64 0] 28 (0,0)):=by rw [← hW0];simp only [heap_alloc_at,World.size_alloc];repeat (first | rw [if_pos trivial] | rw [if_pos (by omega)] | rw [if_neg (by omega)])
 have b2:W0.heap[w.heap.size+2]?=some (.cells #[.int .i64 k,.bool b,.int .i64 n,.string s,.slice ka ks.length kc,.slice la ts.length lc] 60 (0,0)):=by rw [← hW0];simp only [heap_alloc_at,World.size_alloc];repeat (first | rw [if_pos trivial] | rw [if_pos (by omega)] | rw [if_neg (by omega)])
 have b3:W0.heap[w.heap.size+3]?=some (.deferred (some [])):=by rw [← hW0];simp only [heap_alloc_at,World.size_alloc];repeat (first | rw [if_pos trivial] | rw [if_pos (by omega)] | rw [if_neg (by omega)])
 have b4:W0.heap[w.heap.size+4]?=some (.loop rec):=by rw [← hW0];simp only [heap_alloc_at,World.size_alloc];repeat (first | rw [if_pos trivial] | rw [if_pos (by omega)] | rw [if_neg (by omega)])
 have hbl:Below w.heap.size w W0:=by
  rw [← hW0];exact (((((Below.refl _ w).alloc (Nat.le_refl _) _).alloc (by simp) _).alloc (by simp;omega) _).alloc (by simp;omega) _).alloc (by simp;omega) _
 clear hW0
 have R:Rounds F (w.heap.size+4) w.heap.size (w.heap.size+5) w ((Tree.mk k b n s ks ts).pre 1)
   (fun pre W=>W.heap[w.heap.size+4]?=some (.loop rec)∧W.heap[w.heap.size+3]?=some (.deferred (some []))∧W.heap[w.heap.size+1]?=some (.cells #[.int .i64 0] 28 (0,0)) ∧
    W.heap[w.heap.size]?=some (.cells #[.int .i64 k,.bool b,.int .i64 n,.string s,.slice ka ks.length kc,.slice la ts.length lc] 60 (0,0)) ∧
    Below w.heap.size w W∧w.heap.size+5≤W.heap.size∧pre.all (fun x=>shapedB x.2)=true)
   (fun W=>W.heap[w.heap.size+4]?=some (.loop (asDone rec .ret))∧W.heap[w.heap.size+3]?=some (.deferred (some []))∧W.heap[w.heap.size+1]?=some (.cells #[.int .i64 110] 28 (0,0)) ∧
    Below w.heap.size w W∧w.heap.size+5≤W.heap.size∧((Tree.mk k b n s ks ts).pre 1).all (fun x=>shapedB x.2)=false)
   (fun _ _=>False):=by
  refine ⟨?_,?_,?_⟩
  ·rintro pre W ⟨_,_,_,_,h4,h5,_⟩
   exact ⟨h4,by omega,h5⟩
  ·rintro pre W W' ⟨h1,h2,h3,h3',h4,h5,h6⟩ hb
   exact ⟨(hb.block _ (by omega)).trans h1,(hb.block _ (by omega)).trans h2,(hb.block _ (by omega)).trans h3,(hb.block _ (by omega)).trans h3',h4.trans (hb.mono (by omega)),by have:=hb.size;omega,h6⟩
  ·rintro m' pre d ⟨k',b',n',s',ks',us⟩ v W ⟨h1,h2,h3,h3',h4,h5,h6⟩ hlv hpre
   have hlv0:=hlv
   simp only [Lies] at hlv
   obtain ⟨ka',kc',la',lc',rfl,⟨g1,g2,g3,g4,g5⟩,hk',ht'⟩:=hlv
   have ea:=congrArg Loop.assign hrec
   have eb:=congrArg Loop.body hrec
   have et:=congrArg Loop.tmps hrec
   have ep:=congrArg Loop.params hrec
   have es:=congrArg Loop.state hrec
   have ef:=congrArg Loop.fn hrec
   have hr0:asReady rec=rec:=by rw [← hrec];rfl
   dsimp only at ea eb et ep es ef
   clear hrec
   refine yield_round (hfn _) ea eb et ep h1 es.symm (by rw [← ep];rfl) ?_
   clear ea eb et ep es
   gi_wp2_with fail
   refine ⟨(Below.heap_alloc _ _ _ (by omega)).trans h1,?_⟩
   generalize hW2:World.putObj _ _ _=W2
   have a1:W2.heap[w.heap.size+4]?=some (.loop (asBusy rec)):=by rw [← hW2];refine World.putObj_heap_same ?_;simp;omega
   have a2:Boxed W2 (w.heap.size+1) 28 (.int .i64 0):=by rw [← hW2];show _=_;rw [World.putObj_heap_other (by omega),Below.heap_alloc _ _ _ (by omega)];exact h3
   have a0:W2.heap[w.heap.size]?=some (.cells #[.int .i64 k,.bool b,.int .i64 n,.string s,.slice ka ks.length kc,.slice la ts.length lc] 60 (0,0)):=by rw [← hW2,World.putObj_heap_other (by omega),Below.heap_alloc _ _ _ (by omega)];exact h3'
   have a3:W2.heap[w.heap.size+3]?=some (.deferred (some [])):=by rw [← hW2,World.putObj_heap_other (by omega),Below.heap_alloc _ _ _ (by omega)];exact h2
   have a4:W2.heap[W.heap.size]?=some (.cells #[.int .i64 k',.bool b',.int .i64 n',.string s',.slice ka' ks'.length kc',.slice la' us.length lc'] 60 (0,0)):=by
    rw [← hW2];exact (World.putObj_heap_other (by omega)).trans (World.alloc_heap_new _ _)
   have a5:Below w.heap.size w W2:=by rw [← hW2];exact (But.putObj _ _).below ((h4.alloc (by omega) _)) (by omega)
   have a6:W2.heap.size=W.heap.size+1:=by rw [← hW2];simp
   have a7:Above (w.heap.size+5) W W2:=⟨by omega,fun i hi hl=>by rw [← hW2];exact (World.putObj_heap_other (by omega)).trans (Below.heap_alloc _ _ _ hl)⟩
   clear hW2 h1 h2 h3 h3'
   have x0:W2.cell? ⟨W.heap.size,0,none⟩=some (.int .i64 k'):=by unfold World.cell?;simp only [a4];rfl
   have x1:W2.cell? ⟨W.heap.size,1,none⟩=some (.bool b'):=by unfold World.cell?;simp only [a4];rfl
   have x2:W2.cell? ⟨W.heap.size,2,none⟩=some (.int .i64 n'):=by unfold World.cell?;simp only [a4];rfl
   have x3:W2.cell? ⟨W.heap.size,3,none⟩=some (.string s'):=by unfold World.cell?;simp only [a4];rfl
   have x4:W2.cell? ⟨W.heap.size,4,none⟩=some (.slice ka' ks'.length kc'):=by unfold World.cell?;simp only [a4];rfl
   have x5:W2.cell? ⟨W.heap.size,5,none⟩=some (.slice la' us.length lc'):=by unfold World.cell?;simp only [a4];rfl
   have hsp:=shaped_any w.heap.size _ _ W2 (by have:=a5.size;omega) (hlv0.below a5) (hT.below a5)
   gi_wp2_with fail
   refine (CallsIn.inRound _ (in_wide HF.out hsp)).mono ?_
   rintro e W3 ⟨rfl,hb3⟩
   have c1:W3.heap[w.heap.size+4]?=some (.loop (asBusy rec)):=(hb3.block _ (by omega)).trans a1
   have c2:Boxed W3 (w.heap.size+1) 28 (.int .i64 0):=(hb3.block _ (by omega)).trans a2
   have c3:W3.heap[w.heap.size+3]?=some (.deferred (some [])):=(hb3.block _ (by omega)).trans a3
   have c0:W3.heap[w.heap.size]?=some (.cells #[.int .i64 k,.bool b,.int .i64 n,.string s,.slice ka ks.length kc,.slice la ts.length lc] 60 (0,0)):=(hb3.block _ (by omega)).trans a0
   have c5:Below w.heap.size w W3:=a5.trans (hb3.mono (by omega))
   have c7:Above (w.heap.size+5) W W3:=a7.trans (Above.of_below hb3 (Nat.le_refl _))
   have hz3:=hb3.size
   have cb:=c2.cell
   have fb:=c2.frozen
   clear hsp hb3 a0 a1 a2 a3 a4 a5 a7 x0 x1 x2 x3 x4 x5
   cases hsh:shapedB (.mk k' b' n' s' ks' us) with
   | true =>
    have HJ:Hid ((pre++[(d,Tree.mk k' b' n' s' ks' us)]).all (fun x=>shapedB x.2)=true):=by show _=_;rw [List.all_append,h6];simp [hsh]
    clear hsh h6
    gi_wp2_with fail
    refine ⟨c1,.inl ⟨rfl,⟨?_,?_,?_,?_,?_,?_,HJ.out⟩,?_⟩⟩
    ·rw [hr0];exact World.putObj_heap_same (by omega)
    ·rw [World.putObj_heap_other (by omega)];exact c3
    ·rw [World.putObj_heap_other (by omega)];exact c2
    ·rw [World.putObj_heap_other (by omega)];exact c0
    ·exact (But.putObj _ _).below c5 (by omega)
    ·rw [World.putObj_size];omega
    ·refine c7.trans ⟨by rw [World.putObj_size];omega,fun i hi hl=>?_⟩
     rw [World.putObj_heap_other (by omega)]
   | false =>
    have HJ:Hid (((Tree.mk k b n s ks ts).pre 1).all (fun x=>shapedB x.2)=false):=by
     obtain ⟨r,hr⟩:=hpre
     show _=_
     rw [← hr,List.all_append,List.all_append];simp [hsh]
    clear hsh h6
    gi_wp2_with fail
    have e4:(W3.setCell ⟨w.heap.size+1,0,none⟩ (.int .i64 110)).heap[w.heap.size+4]?=some (.loop (asBusy rec)):=(Below.heap_setCell _ _ _ _ (by show w.heap.size+4≠w.heap.size+1;omega)).trans c1
    have hsz4:(W3.setCell ⟨w.heap.size+1,0,none⟩ (.int .i64 110)).heap.size=W3.heap.size:=by simp [World.setCell]
    refine ⟨e4,.inr (.inl ⟨rfl,?_,?_,?_,?_,?_,HJ.out⟩)⟩
    ·exact World.putObj_heap_same (by omega)
    ·rw [World.putObj_heap_other (by omega)];exact (Below.heap_setCell _ _ _ _ (by show w.heap.size+3≠w.heap.size+1;omega)).trans c3
    ·rw [World.putObj_heap_other (by omega)];exact c2.set _
    ·exact (But.putObj _ _).below (c5.setCell (p:=⟨w.heap.size+1,0,none⟩) (by show _≤w.heap.size+1;omega) _) (by omega)
    ·rw [World.putObj_size];omega
 have hco:∀ (i:Nat) (v:Value),(#[Value.int .i64 k,.bool b,.int .i64 n,.string s,.slice ka ks.length kc,.slice la ts.length lc]:Array Value)[i]?=some v→∀ (W:World) (bx:Nat),W.heap[bx]?=some (.cells #[.int .i64 k,.bool b,.int .i64 n,.string s,.slice ka ks.length kc,.slice la ts.length lc] 60 (0,0))→W.cell? ⟨bx,i,none⟩=some v:=by
  intro i v hi W bx hbx;unfold World.cell?;simp only [hbx];simpa using hi
 refine (within1_any hd (hfn _) (hfn _) hro R _ (w.heap.size+1+1) W0 hv0 ⟨b4,b3,b1,b0,hbl,by omega,rfl⟩ (by simp only [Tree.height] at hh;omega)
  (hco 0 _ rfl _ _ b2) (hco 1 _ rfl _ _ b2) (hco 2 _ rfl _ _ b2) (hco 3 _ rfl _ _ b2) (hco 4 _ rfl _ _ b2) (hco 5 _ rfl _ _ b2)).mono ?_
 rintro e W' (⟨⟨x,rfl⟩,⟨h1,h2,h3,h3',h4,h5,h6⟩ | ⟨h1,h2,h3,h4,h5,h6⟩⟩ | ⟨ch,_,hx⟩)
 ·have hp:rec.pending=none:=by rw [← hrec]
  have hst:rec.state≠.busy:=by rw [← hrec];simp
  clear hrec R b0 b1 b2 b3 b4 hbl hsz
  refine ⟨rec,h1,hst,?_⟩
  simp only [hp]
  generalize hW4:World.putObj _ _ _=W4
  have d1:Boxed W4 (w.heap.size+1) 28 (.int .i64 0):=by rw [← hW4];show _=_;rw [World.putObj_heap_other (by omega)];exact h3
  have d0:W4.heap[w.heap.size]?=some (.cells #[.int .i64 k,.bool b,.int .i64 n,.string s,.slice ka ks.length kc,.slice la ts.length lc] 60 (0,0)):=by rw [← hW4,World.putObj_heap_other (by omega)];exact h3'
  have d3:W4.heap[w.heap.size+3]?=some (.deferred (some [])):=by rw [← hW4,World.putObj_heap_other (by omega)];exact h2
  have d4:Below w.heap.size w W4:=by rw [← hW4];exact (But.putObj _ _).below h4 (by omega)
  have d5:w.heap.size+5≤W4.heap.size:=by rw [← hW4,World.putObj_size];exact h5
  clear hW4 h1 h2 h3 h3' h4 h5 hst hp
  have x0:=hco 0 _ rfl _ _ d0
  have x1:=hco 1 _ rfl _ _ d0
  have x2:=hco 2 _ rfl _ _ d0
  have x3:=hco 3 _ rfl _ _ d0
  have x4:=hco 4 _ rfl _ _ d0
  have x5:=hco 5 _ rfl _ _ d0
  clear hco
  have hwe:=weigh_calls _ _ W4 ((hv0.below d4).mono (by omega)) hh hb
  gi_wp2_with fail
  refine (in_wide HF.out hwe).mono ?_
  clear hwe x0 x1 x2 x3 x4 x5 d0
  rintro e W5 ⟨hb5,⟨hh0,x,rfl⟩ | ⟨hh1,rfl⟩⟩
  ·have f1:Boxed W5 (w.heap.size+1) 28 (.int .i64 0):=(hb5.block _ (by omega)).trans d1
   have f3:W5.heap[w.heap.size+3]?=some (.deferred (some [])):=(hb5.block _ (by omega)).trans d3
   have f4:Below w.heap.size w W5:=d4.trans (hb5.mono (by omega))
   have f5:=hb5.size
   have cb:=f1.cell
   have fb:=f1.frozen
   have HN:Hid (checkN (.mk k b n s ks ts)=0):=by show _=_;unfold checkN;rw [if_pos h6,if_neg (by rw [hh0];simp)]
   clear d1 d3 d4 hb5 hh0 h6
   gi_wp2_with fail
   have hq3:(W5.setCell ⟨w.heap.size+1,0,none⟩ (.int .i64 0)).heap[w.heap.size+3]?=some (.deferred (some [])):=(Below.heap_setCell _ _ _ _ (by show w.heap.size+3≠w.heap.size+1;omega)).trans f3
   have hq4:Below w.heap.size w (W5.setCell ⟨w.heap.size+1,0,none⟩ (.int .i64 0)):=f4.setCell (p:=⟨w.heap.size+1,0,none⟩) (by show _≤w.heap.size+1;omega) _
   have hq1:Boxed (W5.setCell ⟨w.heap.size+1,0,none⟩ (.int .i64 0)) (w.heap.size+1) 28 (.int .i64 0):=f1.set _
   show LeavesInM _ _ _ _ _ _ [_,_] _ _
   refine ⟨by simp,.inr ⟨depth_none hd _,_,_,206,#[.pointer (some ⟨w.heap.size+1,0,none⟩)],rfl,by simp [invoke,go_sem],fun g _=>hfn g,?_⟩⟩
   rw [HF.out]
   refine (catch_idle _ _ _).mono ?_
   rintro e u' w'' ⟨rfl,rfl,rfl⟩
   show LeavesInM _ _ _ _ _ _ [_] .returning _
   refine ⟨by simp,.inl ⟨_,_,rfl,run_takeDeferred hq3,?_⟩⟩
   have hq5:Boxed ((W5.setCell ⟨w.heap.size+1,0,none⟩ (.int .i64 0)).putObj (w.heap.size+3) (.deferred none)) (w.heap.size+1) 28 (.int .i64 0):=(World.putObj_heap_other (by omega)).trans hq1
   refine ⟨.int .i64 0,?_,by rw [HN.out],(But.putObj _ _).below hq4 (by omega)⟩
   have hq6:=hq5.cell
   simp [results,Tryz.results168,go_sem,hq6]
  ·have f1:Boxed W5 (w.heap.size+1) 28 (.int .i64 0):=(hb5.block _ (by omega)).trans d1
   have f3:W5.heap[w.heap.size+3]?=some (.deferred (some [])):=(hb5.block _ (by omega)).trans d3
   have f4:Below w.heap.size w W5:=d4.trans (hb5.mono (by omega))
   have f5:=hb5.size
   have HN:Hid (checkN (.mk k b n s ks ts)=3):=by show _=_;unfold checkN;rw [if_pos h6,if_pos hh1]
   have hq3:(W5.setCell ⟨w.heap.size+1,0,none⟩ (.int .i64 3)).heap[w.heap.size+3]?=some (.deferred (some [])):=(Below.heap_setCell _ _ _ _ (by show w.heap.size+3≠w.heap.size+1;omega)).trans f3
   have hq4:Below w.heap.size w (W5.setCell ⟨w.heap.size+1,0,none⟩ (.int .i64 3)):=f4.setCell (p:=⟨w.heap.size+1,0,none⟩) (by show _≤w.heap.size+1;omega) _
   have hq1:Boxed (W5.setCell ⟨w.heap.size+1,0,none⟩ (.int .i64 3)) (w.heap.size+1) 28 (.int .i64 3):=f1.set _
   show LeavesInM _ _ _ _ _ _ [_,_] _ _
   refine ⟨by simp,.inr ⟨depth_none hd _,_,_,206,#[.pointer (some ⟨w.heap.size+1,0,none⟩)],rfl,by simp [invoke,go_sem],fun g _=>hfn g,?_⟩⟩
   rw [HF.out]
   refine (catch_long _ _ 0 _ f1.cell f1.frozen).mono ?_
   rintro e u' w'' ⟨rfl,rfl,rfl⟩
   show LeavesInM _ _ _ _ _ _ [_] .returning _
   refine ⟨by simp,.inl ⟨_,_,rfl,run_takeDeferred hq3,?_⟩⟩
   have hq5:Boxed ((W5.setCell ⟨w.heap.size+1,0,none⟩ (.int .i64 3)).putObj (w.heap.size+3) (.deferred none)) (w.heap.size+1) 28 (.int .i64 3):=(World.putObj_heap_other (by omega)).trans hq1
   refine ⟨.int .i64 3,?_,by rw [HN.out],(But.putObj _ _).below hq4 (by omega)⟩
   have hq6:=hq5.cell
   simp [results,Tryz.results168,go_sem,hq6]
 ·have HN:Hid (checkN (.mk k b n s ks ts)=110):=by show _=_;unfold checkN;rw [if_neg (by rw [h6];simp)]
  refine ⟨asDone rec .ret,h1,by simp [asDone],?_⟩
  simp only [asDone]
  clear hrec R b0 b1 b2 b3 b4 hbl hsz hco
  generalize hW4:World.putObj _ _ _=W4
  have d1:Boxed W4 (w.heap.size+1) 28 (.int .i64 110):=by rw [← hW4];show _=_;rw [World.putObj_heap_other (by omega)];exact h3
  have d3:W4.heap[w.heap.size+3]?=some (.deferred (some [])):=by rw [← hW4,World.putObj_heap_other (by omega)];exact h2
  have d4:Below w.heap.size w W4:=by rw [← hW4];exact (But.putObj _ _).below h4 (by omega)
  clear hW4 h1 h2 h3 h4 h6
  gi_wp2_with fail
  show LeavesInM _ _ _ _ _ _ [_] .returning _
  refine ⟨by simp,.inl ⟨_,_,rfl,run_takeDeferred d3,?_⟩⟩
  have hq5:Boxed (W4.putObj (w.heap.size+3) (.deferred none)) (w.heap.size+1) 28 (.int .i64 110):=(World.putObj_heap_other (by omega)).trans d1
  refine ⟨.int .i64 110,?_,by rw [HN.out],(But.putObj _ _).below d4 (by omega)⟩
  have hq6:=hq5.cell
  simp [results,Tryz.results168,go_sem,hq6]
 ·exact hx.elim
end Go.Proofs.YteddjlbfbpecjaaGreatDoor

