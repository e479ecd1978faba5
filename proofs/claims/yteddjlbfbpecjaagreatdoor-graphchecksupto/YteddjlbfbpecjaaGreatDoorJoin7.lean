/- GraphChecks' test, in whatever order its operations are done. Regions of which some operations are told by their values. A graph of nothing: it may be, and is made. Maps by numbers: what they hold, and what is done to them. -/
import Derived.Test.YteddjlbfbpecjaaGreatDoorRalk
import Derived.Test.YteddjlbfbpecjaaGreatDoorJoin2
import Derived.Test.YteddjlbfbpecjaaGreatDoorJoin3
import Derived.Deep.Cut
import Derived.Maps.Keyed
import Derived.MapKept
namespace Go.Proofs.YteddjlbfbpecjaaGreatDoor
open Go.RowKit Go.Shelf Go.WideShapes
set_option maxHeartbeats 4000000
set_option maxRecDepth 100000
set_option linter.unusedVariables false
set_option linter.unusedSimpArgs false
noncomputable def RGC6  : Array Oper:=regionAt Tryz.f3 6
def LGC6  : List Sig:=[⟨25,.move (.tmp 5),28,none⟩,⟨26,.binOp .eql 28 (.tmp 25) (.const (.int .i64 0)) 28,4,none⟩,⟨27,.load 25 (.tmp 2),25,none⟩,⟨28,.call { callee:=.value (.func 14),args:=#[.tmp 27],argTypes:=#[25] },4,none⟩,⟨29,.binOp .neq 4 (.tmp 26) (.tmp 28) 4,4,none⟩,⟨30,.move (.tmp 29),4,none⟩,⟨31,.move (.tmp 5),28,some (5,false)⟩,⟨32,.binOp .neq 28 (.tmp 31) (.const (.int .i64 0)) 28,4,some (5,false)⟩,⟨33,.move (.tmp 32),4,some (5,false)⟩,⟨34,.move (.tmp 5),28,some (8,true)⟩,⟨35,.binOp .neq 28 (.tmp 34) (.const (.int .i64 2)) 28,4,some (8,true)⟩,⟨36,.pick (.tmp 33) (.tmp 35) (.const (.bool false)),4,some (5,false)⟩,⟨37,.pick (.tmp 30) (.const (.bool true)) (.tmp 36),4,none⟩,⟨38,.move (.tmp 37),4,none⟩,⟨39,.load 25 (.tmp 6),25,some (13,false)⟩,⟨40,.load 25 (.tmp 2),25,some (13,false)⟩,⟨41,.call { callee:=.value (.func 15),args:=#[.tmp 39,.tmp 40],argTypes:=#[25,25] },4,some (13,false)⟩,⟨42,.unOp .not 4 (.tmp 41),4,some (13,false)⟩,⟨43,.pick (.tmp 38) (.const (.bool true)) (.tmp 42),4,none⟩,⟨44,.move (.tmp 43),4,none⟩,⟨45,.load 25 (.tmp 2),25,some (19,false)⟩,⟨46,.load 25 (.tmp 3),25,some (19,false)⟩,⟨47,.call { callee:=.value (.func 16),args:=#[.tmp 45,.tmp 46],argTypes:=#[25,25] },4,some (19,false)⟩,⟨48,.load 25 (.tmp 2),25,some (19,false)⟩,⟨49,.load 25 (.tmp 3),25,some (19,false)⟩,⟨50,.call { callee:=.value (.func 15),args:=#[.tmp 48,.tmp 49],argTypes:=#[25,25] },4,some (19,false)⟩,⟨51,.move (.tmp 50),4,some (19,false)⟩,⟨52,.load 25 (.tmp 2),25,some (26,true)⟩,⟨53,.call { callee:=.value (.func 17),args:=#[.tmp 52],argTypes:=#[25] },4,some (26,true)⟩,⟨54,.pick (.tmp 51) (.tmp 53) (.const (.bool false)),4,some (19,false)⟩,⟨55,.binOp .neq 4 (.tmp 47) (.tmp 54) 4,4,some (19,false)⟩,⟨56,.pick (.tmp 44) (.const (.bool true)) (.tmp 55),4,none⟩,⟨57,.move (.tmp 56),4,none⟩,⟨58,.load 25 (.tmp 2),25,some (32,false)⟩,⟨59,.load 25 (.tmp 6),25,some (32,false)⟩,⟨60,.call { callee:=.value (.func 16),args:=#[.tmp 58,.tmp 59],argTypes:=#[25,25] },4,some (32,false)⟩,⟨61,.load 25 (.tmp 2),25,some (32,false)⟩,⟨62,.call { callee:=.value (.func 17),args:=#[.tmp 61],argTypes:=#[25] },4,some (32,false)⟩,⟨63,.binOp .neq 4 (.tmp 60) (.tmp 62) 4,4,some (32,false)⟩,⟨64,.pick (.tmp 57) (.const (.bool true)) (.tmp 63),4,none⟩]
theorem hLGC6  : sigsOf RGC6=LGC6.map some:=by kernel_rfl
def AGC6  : List (List Nat):=[[],[0],[],[2],[1,3],[4],[5],[5,6],[5,7],[8],[8,9],[5,8,10],[5,11],[12],[13],[13],[13,14,15],[13,16],[13,17],[18],[19],[19],[19,20,21],[19],[19],[19,23,24],[19,25],[26],[26,27],[19,26,28],[19,22,29],[19,30],[31],[32],[32],[32,33,34],[32],[32,36],[32,35,37],[32,38]]
structure BaseGC6 (G O C:Nat) (e:Int) (g0 g1 g2 g3 o0 o1 o2 o3 c0 c1 c2 c3:Value) (fn:Bool) (c:Act):Prop where
 t2:c.eval (.tmp 2)=.pointer (some ⟨G,0,none⟩)
 t3:c.eval (.tmp 3)=.pointer (some ⟨O,0,none⟩)
 t5:c.eval (.tmp 5)=.int .i64 e
 t6:c.eval (.tmp 6)=.pointer (some ⟨C,0,none⟩)
def VGCTT (G O C:Nat) (e:Int) (g0 g1 g2 g3 o0 o1 o2 o3 c0 c1 c2 c3:Value) (fn:Bool):List Value:=[.int .i64 e,.bool true,.agg #[g0,g1,g2,g3],.bool true,.bool false,.bool false,.int .i64 e,.bool false,.bool false,undef,undef,.bool false,.bool false,.bool false,.agg #[c0,c1,c2,c3],.agg #[g0,g1,g2,g3],.bool true,.bool false,.bool false,.bool false,.agg #[g0,g1,g2,g3],.agg #[o0,o1,o2,o3],.bool fn,.agg #[g0,g1,g2,g3],.agg #[o0,o1,o2,o3],.bool true,.bool true,.agg #[g0,g1,g2,g3],.bool fn,.bool fn,.bool false,.bool false,.bool false,.agg #[g0,g1,g2,g3],.agg #[c0,c1,c2,c3],.bool fn,.agg #[g0,g1,g2,g3],.bool fn,.bool false,.bool false]
structure WorldGCTT (G O C:Nat) (e:Int) (g0 g1 g2 g3 o0 o1 o2 o3 c0 c1 c2 c3:Value) (fn:Bool) (w:World):Prop where
 a1:(e==0)=true
 xg0:w.cell? ⟨G,0,none⟩=some (g0)
 xg1:w.cell? ⟨G,1,none⟩=some (g1)
 xg2:w.cell? ⟨G,2,none⟩=some (g2)
 xg3:w.cell? ⟨G,3,none⟩=some (g3)
 k3:Calls Tryz.prog 14 #[.agg #[g0,g1,g2,g3]] w fun e w'=>e=.returned (.bool true)∧Below w.heap.size w w'
 a7:(e != 0)=false
 xc0:w.cell? ⟨C,0,none⟩=some (c0)
 xc1:w.cell? ⟨C,1,none⟩=some (c1)
 xc2:w.cell? ⟨C,2,none⟩=some (c2)
 xc3:w.cell? ⟨C,3,none⟩=some (c3)
 k16:Calls Tryz.prog 15 #[.agg #[c0,c1,c2,c3],.agg #[g0,g1,g2,g3]] w fun e w'=>e=.returned (.bool true)∧Below w.heap.size w w'
 xo0:w.cell? ⟨O,0,none⟩=some (o0)
 xo1:w.cell? ⟨O,1,none⟩=some (o1)
 xo2:w.cell? ⟨O,2,none⟩=some (o2)
 xo3:w.cell? ⟨O,3,none⟩=some (o3)
 k22:Calls Tryz.prog 16 #[.agg #[g0,g1,g2,g3],.agg #[o0,o1,o2,o3]] w fun e w'=>e=.returned (.bool fn)∧Below w.heap.size w w'
 k25:Calls Tryz.prog 15 #[.agg #[g0,g1,g2,g3],.agg #[o0,o1,o2,o3]] w fun e w'=>e=.returned (.bool true)∧Below w.heap.size w w'
 k28:Calls Tryz.prog 17 #[.agg #[g0,g1,g2,g3]] w fun e w'=>e=.returned (.bool fn)∧Below w.heap.size w w'
 k35:Calls Tryz.prog 16 #[.agg #[g0,g1,g2,g3],.agg #[c0,c1,c2,c3]] w fun e w'=>e=.returned (.bool fn)∧Below w.heap.size w w'
 k37:Calls Tryz.prog 17 #[.agg #[g0,g1,g2,g3]] w fun e w'=>e=.returned (.bool fn)∧Below w.heap.size w w'
theorem regionGCTT (G O C:Nat) (e:Int) (g0 g1 g2 g3 o0 o1 o2 o3 c0 c1 c2 c3:Value) (fn:Bool) (Q:Exit→Act→World→Prop) (base:Act) (w0:World) (hsz:base.tmps.size=91) (hb:BaseGC6 G O C e g0 g1 g2 g3 o0 o1 o2 o3 c0 c1 c2 c3 fn base)
  (hW:∀ w,Below w0.heap.size w0 w→WorldGCTT G O C e g0 g1 g2 g3 o0 o1 o2 o3 c0 c1 c2 c3 fn w) (hQ:∀ c w,Same RGC6 base c→Below w0.heap.size w0 w→c.eval (.tmp 64)=.bool false→Q .normal c w):(Code.region 6 RGC6 true).wp Tryz.prog Q base w0:=by
 refine told_rule (B:=BaseGC6 G O C e g0 g1 g2 g3 o0 o1 o2 o3 c0 c1 c2 c3 fn) (T:=WorldGCTT G O C e g0 g1 g2 g3 o0 o1 o2 o3 c0 c1 c2 c3 fn) (n:=40) (k:=39) LGC6 AGC6 (VGCTT G O C e g0 g1 g2 g3 o0 o1 o2 o3 c0 c1 c2 c3 fn) hLGC6 rfl (by kernel_rfl) (by kernel_rfl) (by kernel_rfl) (by rw [hsz];kernel_rfl) (fun c hS=>⟨(same_eval hS (by kernel_rfl)).trans hb.t2,(same_eval hS (by kernel_rfl)).trans hb.t3,(same_eval hS (by kernel_rfl)).trans hb.t5,(same_eval hS (by kernel_rfl)).trans hb.t6⟩) hW ?_ (by decide) rfl rfl hQ
 clear hsz hb hW hQ
 iterate 40 (refine below_succ ?_ (by
  intro c w hb hW hEq
  obtain ⟨t2,t3,t5,t6⟩:=hb
  obtain ⟨a1,xg0,xg1,xg2,xg3,k3,a7,xc0,xc1,xc2,xc3,k16,xo0,xo1,xo2,xo3,k22,k25,k28,k35,k37⟩:=hW
  have ec:=evc c
  have ef:=evf c
  dsimp only [AGC6,LGC6,VGCTT,nth,EqAt,look,OpGoal] at hEq ⊢
  first
  | exact ⟨by first | exact hEq.1 | exact hEq.2.1 | exact hEq.2.2.1 | exact hEq.2.2.2.1,.inr ⟨.inl rfl,rfl⟩⟩
  | exact ⟨by first | exact hEq.1 | exact hEq.2.1 | exact hEq.2.2.1 | exact hEq.2.2.2.1,.inr ⟨.inr rfl,rfl⟩⟩
  | ((try refine ⟨by first | exact hEq.1 | exact hEq.2.1 | exact hEq.2.2.1 | exact hEq.2.2.2.1,.inl ⟨rfl,?_⟩⟩);first | (refine od_static Tryz.call14 k3 ?_;simp only [List.map_toArray,List.map_cons,List.map_nil,hEq];done) | (refine od_static Tryz.call15 k16 ?_;simp only [List.map_toArray,List.map_cons,List.map_nil,hEq];done) | (refine od_static Tryz.call16 k22 ?_;simp only [List.map_toArray,List.map_cons,List.map_nil,hEq];done) | (refine od_static Tryz.call15 k25 ?_;simp only [List.map_toArray,List.map_cons,List.map_nil,hEq];done) | (refine od_static Tryz.call17 k28 ?_;simp only [List.map_toArray,List.map_cons,List.map_nil,hEq];done) | (refine od_static Tryz.call16 k35 ?_;simp only [List.map_toArray,List.map_cons,List.map_nil,hEq];done) | (refine od_static Tryz.call17 k37 ?_;simp only [List.map_toArray,List.map_cons,List.map_nil,hEq];done) | (refine .inl fun pos af=>?_;(clear k3 k16 k22 k25 k28 k35 k37;dsimp only [Sig.oper];generalize c.eval=ρ at *;go_simp;done)) | (refine .inl fun pos af=>?_;clear k3 k16 k22 k25 k28 k35 k37;dsimp only [Sig.oper];generalize c.eval=ρ at *;go_simp;simp only [decide_eq_true_eq,decide_eq_false_iff_not] at *;omega))))
 exact below_zero
def VGCTF (G O C:Nat) (e:Int) (g0 g1 g2 g3 o0 o1 o2 o3 c0 c1 c2 c3:Value) (fn:Bool):List Value:=[.int .i64 e,.bool true,.agg #[g0,g1,g2,g3],.bool true,.bool false,.bool false,.int .i64 e,.bool false,.bool false,undef,undef,.bool false,.bool false,.bool false,.agg #[c0,c1,c2,c3],.agg #[g0,g1,g2,g3],.bool true,.bool false,.bool false,.bool false,.agg #[g0,g1,g2,g3],.agg #[o0,o1,o2,o3],.bool false,.agg #[g0,g1,g2,g3],.agg #[o0,o1,o2,o3],.bool false,.bool false,undef,undef,.bool false,.bool false,.bool false,.bool false,.agg #[g0,g1,g2,g3],.agg #[c0,c1,c2,c3],.bool fn,.agg #[g0,g1,g2,g3],.bool fn,.bool false,.bool false]
structure WorldGCTF (G O C:Nat) (e:Int) (g0 g1 g2 g3 o0 o1 o2 o3 c0 c1 c2 c3:Value) (fn:Bool) (w:World):Prop where
 a1:(e==0)=true
 xg0:w.cell? ⟨G,0,none⟩=some (g0)
 xg1:w.cell? ⟨G,1,none⟩=some (g1)
 xg2:w.cell? ⟨G,2,none⟩=some (g2)
 xg3:w.cell? ⟨G,3,none⟩=some (g3)
 k3:Calls Tryz.prog 14 #[.agg #[g0,g1,g2,g3]] w fun e w'=>e=.returned (.bool true)∧Below w.heap.size w w'
 a7:(e != 0)=false
 xc0:w.cell? ⟨C,0,none⟩=some (c0)
 xc1:w.cell? ⟨C,1,none⟩=some (c1)
 xc2:w.cell? ⟨C,2,none⟩=some (c2)
 xc3:w.cell? ⟨C,3,none⟩=some (c3)
 k16:Calls Tryz.prog 15 #[.agg #[c0,c1,c2,c3],.agg #[g0,g1,g2,g3]] w fun e w'=>e=.returned (.bool true)∧Below w.heap.size w w'
 xo0:w.cell? ⟨O,0,none⟩=some (o0)
 xo1:w.cell? ⟨O,1,none⟩=some (o1)
 xo2:w.cell? ⟨O,2,none⟩=some (o2)
 xo3:w.cell? ⟨O,3,none⟩=some (o3)
 k22:Calls Tryz.prog 16 #[.agg #[g0,g1,g2,g3],.agg #[o0,o1,o2,o3]] w fun e w'=>e=.returned (.bool false)∧Below w.heap.size w w'
 k25:Calls Tryz.prog 15 #[.agg #[g0,g1,g2,g3],.agg #[o0,o1,o2,o3]] w fun e w'=>e=.returned (.bool false)∧Below w.heap.size w w'
 k35:Calls Tryz.prog 16 #[.agg #[g0,g1,g2,g3],.agg #[c0,c1,c2,c3]] w fun e w'=>e=.returned (.bool fn)∧Below w.heap.size w w'
 k37:Calls Tryz.prog 17 #[.agg #[g0,g1,g2,g3]] w fun e w'=>e=.returned (.bool fn)∧Below w.heap.size w w'
theorem regionGCTF (G O C:Nat) (e:Int) (g0 g1 g2 g3 o0 o1 o2 o3 c0 c1 c2 c3:Value) (fn:Bool) (Q:Exit→Act→World→Prop) (base:Act) (w0:World) (hsz:base.tmps.size=91) (hb:BaseGC6 G O C e g0 g1 g2 g3 o0 o1 o2 o3 c0 c1 c2 c3 fn base)
  (hW:∀ w,Below w0.heap.size w0 w→WorldGCTF G O C e g0 g1 g2 g3 o0 o1 o2 o3 c0 c1 c2 c3 fn w) (hQ:∀ c w,Same RGC6 base c→Below w0.heap.size w0 w→c.eval (.tmp 64)=.bool false→Q .normal c w):(Code.region 6 RGC6 true).wp Tryz.prog Q base w0:=by
 refine told_rule (B:=BaseGC6 G O C e g0 g1 g2 g3 o0 o1 o2 o3 c0 c1 c2 c3 fn) (T:=WorldGCTF G O C e g0 g1 g2 g3 o0 o1 o2 o3 c0 c1 c2 c3 fn) (n:=40) (k:=39) LGC6 AGC6 (VGCTF G O C e g0 g1 g2 g3 o0 o1 o2 o3 c0 c1 c2 c3 fn) hLGC6 rfl (by kernel_rfl) (by kernel_rfl) (by kernel_rfl) (by rw [hsz];kernel_rfl) (fun c hS=>⟨(same_eval hS (by kernel_rfl)).trans hb.t2,(same_eval hS (by kernel_rfl)).trans hb.t3,(same_eval hS (by kernel_rfl)).trans hb.t5,(same_eval hS (by kernel_rfl)).trans hb.t6⟩) hW ?_ (by decide) rfl rfl hQ
 clear hsz hb hW hQ
 iterate 40 (refine below_succ ?_ (by
  intro c w hb hW hEq
  obtain ⟨t2,t3,t5,t6⟩:=hb
  obtain ⟨a1,xg0,xg1,xg2,xg3,k3,a7,xc0,xc1,xc2,xc3,k16,xo0,xo1,xo2,xo3,k22,k25,k35,k37⟩:=hW
  have ec:=evc c
  have ef:=evf c
  dsimp only [AGC6,LGC6,VGCTF,nth,EqAt,look,OpGoal] at hEq ⊢
  first
  | exact ⟨by first | exact hEq.1 | exact hEq.2.1 | exact hEq.2.2.1 | exact hEq.2.2.2.1,.inr ⟨.inl rfl,rfl⟩⟩
  | exact ⟨by first | exact hEq.1 | exact hEq.2.1 | exact hEq.2.2.1 | exact hEq.2.2.2.1,.inr ⟨.inr rfl,rfl⟩⟩
  | ((try refine ⟨by first | exact hEq.1 | exact hEq.2.1 | exact hEq.2.2.1 | exact hEq.2.2.2.1,.inl ⟨rfl,?_⟩⟩);first | (refine od_static Tryz.call14 k3 ?_;simp only [List.map_toArray,List.map_cons,List.map_nil,hEq];done) | (refine od_static Tryz.call15 k16 ?_;simp only [List.map_toArray,List.map_cons,List.map_nil,hEq];done) | (refine od_static Tryz.call16 k22 ?_;simp only [List.map_toArray,List.map_cons,List.map_nil,hEq];done) | (refine od_static Tryz.call15 k25 ?_;simp only [List.map_toArray,List.map_cons,List.map_nil,hEq];done) | (refine od_static Tryz.call16 k35 ?_;simp only [List.map_toArray,List.map_cons,List.map_nil,hEq];done) | (refine od_static Tryz.call17 k37 ?_;simp only [List.map_toArray,List.map_cons,List.map_nil,hEq];done) | (refine .inl fun pos af=>?_;(clear k3 k16 k22 k25 k35 k37;dsimp only [Sig.oper];generalize c.eval=ρ at *;go_simp;done)) | (refine .inl fun pos af=>?_;clear k3 k16 k22 k25 k35 k37;dsimp only [Sig.oper];generalize c.eval=ρ at *;go_simp;simp only [decide_eq_true_eq,decide_eq_false_iff_not] at *;omega))))
 exact below_zero
def VGCFT (G O C:Nat) (e:Int) (g0 g1 g2 g3 o0 o1 o2 o3 c0 c1 c2 c3:Value) (fn:Bool):List Value:=[.int .i64 e,.bool false,.agg #[g0,g1,g2,g3],.bool false,.bool false,.bool false,.int .i64 e,.bool true,.bool true,.int .i64 e,.bool false,.bool false,.bool false,.bool false,.agg #[c0,c1,c2,c3],.agg #[g0,g1,g2,g3],.bool true,.bool false,.bool false,.bool false,.agg #[g0,g1,g2,g3],.agg #[o0,o1,o2,o3],.bool fn,.agg #[g0,g1,g2,g3],.agg #[o0,o1,o2,o3],.bool true,.bool true,.agg #[g0,g1,g2,g3],.bool fn,.bool fn,.bool false,.bool false,.bool false,.agg #[g0,g1,g2,g3],.agg #[c0,c1,c2,c3],.bool fn,.agg #[g0,g1,g2,g3],.bool fn,.bool false,.bool false]
structure WorldGCFT (G O C:Nat) (e:Int) (g0 g1 g2 g3 o0 o1 o2 o3 c0 c1 c2 c3:Value) (fn:Bool) (w:World):Prop where
 a1:(e==0)=false
 xg0:w.cell? ⟨G,0,none⟩=some (g0)
 xg1:w.cell? ⟨G,1,none⟩=some (g1)
 xg2:w.cell? ⟨G,2,none⟩=some (g2)
 xg3:w.cell? ⟨G,3,none⟩=some (g3)
 k3:Calls Tryz.prog 14 #[.agg #[g0,g1,g2,g3]] w fun e w'=>e=.returned (.bool false)∧Below w.heap.size w w'
 a7:(e != 0)=true
 a10:(e != 2)=false
 xc0:w.cell? ⟨C,0,none⟩=some (c0)
 xc1:w.cell? ⟨C,1,none⟩=some (c1)
 xc2:w.cell? ⟨C,2,none⟩=some (c2)
 xc3:w.cell? ⟨C,3,none⟩=some (c3)
 k16:Calls Tryz.prog 15 #[.agg #[c0,c1,c2,c3],.agg #[g0,g1,g2,g3]] w fun e w'=>e=.returned (.bool true)∧Below w.heap.size w w'
 xo0:w.cell? ⟨O,0,none⟩=some (o0)
 xo1:w.cell? ⟨O,1,none⟩=some (o1)
 xo2:w.cell? ⟨O,2,none⟩=some (o2)
 xo3:w.cell? ⟨O,3,none⟩=some (o3)
 k22:Calls Tryz.prog 16 #[.agg #[g0,g1,g2,g3],.agg #[o0,o1,o2,o3]] w fun e w'=>e=.returned (.bool fn)∧Below w.heap.size w w'
 k25:Calls Tryz.prog 15 #[.agg #[g0,g1,g2,g3],.agg #[o0,o1,o2,o3]] w fun e w'=>e=.returned (.bool true)∧Below w.heap.size w w'
 k28:Calls Tryz.prog 17 #[.agg #[g0,g1,g2,g3]] w fun e w'=>e=.returned (.bool fn)∧Below w.heap.size w w'
 k35:Calls Tryz.prog 16 #[.agg #[g0,g1,g2,g3],.agg #[c0,c1,c2,c3]] w fun e w'=>e=.returned (.bool fn)∧Below w.heap.size w w'
 k37:Calls Tryz.prog 17 #[.agg #[g0,g1,g2,g3]] w fun e w'=>e=.returned (.bool fn)∧Below w.heap.size w w'
theorem regionGCFT (G O C:Nat) (e:Int) (g0 g1 g2 g3 o0 o1 o2 o3 c0 c1 c2 c3:Value) (fn:Bool) (Q:Exit→Act→World→Prop) (base:Act) (w0:World) (hsz:base.tmps.size=91) (hb:BaseGC6 G O C e g0 g1 g2 g3 o0 o1 o2 o3 c0 c1 c2 c3 fn base)
  (hW:∀ w,Below w0.heap.size w0 w→WorldGCFT G O C e g0 g1 g2 g3 o0 o1 o2 o3 c0 c1 c2 c3 fn w) (hQ:∀ c w,Same RGC6 base c→Below w0.heap.size w0 w→c.eval (.tmp 64)=.bool false→Q .normal c w):(Code.region 6 RGC6 true).wp Tryz.prog Q base w0:=by
 refine told_rule (B:=BaseGC6 G O C e g0 g1 g2 g3 o0 o1 o2 o3 c0 c1 c2 c3 fn) (T:=WorldGCFT G O C e g0 g1 g2 g3 o0 o1 o2 o3 c0 c1 c2 c3 fn) (n:=40) (k:=39) LGC6 AGC6 (VGCFT G O C e g0 g1 g2 g3 o0 o1 o2 o3 c0 c1 c2 c3 fn) hLGC6 rfl (by kernel_rfl) (by kernel_rfl) (by kernel_rfl) (by rw [hsz];kernel_rfl) (fun c hS=>⟨(same_eval hS (by kernel_rfl)).trans hb.t2,(same_eval hS (by kernel_rfl)).trans hb.t3,(same_eval hS (by kernel_rfl)).trans hb.t5,(same_eval hS (by kernel_rfl)).trans hb.t6⟩) hW ?_ (by decide) rfl rfl hQ
 clear hsz hb hW hQ
 iterate 40 (refine below_succ ?_ (by
  intro c w hb hW hEq
  obtain ⟨t2,t3,t5,t6⟩:=hb
  obtain ⟨a1,xg0,xg1,xg2,xg3,k3,a7,a10,xc0,xc1,xc2,xc3,k16,xo0,xo1,xo2,xo3,k22,k25,k28,k35,k37⟩:=hW
  have ec:=evc c
  have ef:=evf c
  dsimp only [AGC6,LGC6,VGCFT,nth,EqAt,look,OpGoal] at hEq ⊢
  first
  | exact ⟨by first | exact hEq.1 | exact hEq.2.1 | exact hEq.2.2.1 | exact hEq.2.2.2.1,.inr ⟨.inl rfl,rfl⟩⟩
  | exact ⟨by first | exact hEq.1 | exact hEq.2.1 | exact hEq.2.2.1 | exact hEq.2.2.2.1,.inr ⟨.inr rfl,rfl⟩⟩
  | ((try refine ⟨by first | exact hEq.1 | exact hEq.2.1 | exact hEq.2.2.1 | exact hEq.2.2.2.1,.inl ⟨rfl,?_⟩⟩);first | (refine od_static Tryz.call14 k3 ?_;simp only [List.map_toArray,List.map_cons,List.map_nil,hEq];done) | (refine od_static Tryz.call15 k16 ?_;simp only [List.map_toArray,List.map_cons,List.map_nil,hEq];done) | (refine od_static Tryz.call16 k22 ?_;simp only [List.map_toArray,List.map_cons,List.map_nil,hEq];done) | (refine od_static Tryz.call15 k25 ?_;simp only [List.map_toArray,List.map_cons,List.map_nil,hEq];done) | (refine od_static Tryz.call17 k28 ?_;simp only [List.map_toArray,List.map_cons,List.map_nil,hEq];done) | (refine od_static Tryz.call16 k35 ?_;simp only [List.map_toArray,List.map_cons,List.map_nil,hEq];done) | (refine od_static Tryz.call17 k37 ?_;simp only [List.map_toArray,List.map_cons,List.map_nil,hEq];done) | (refine .inl fun pos af=>?_;(clear k3 k16 k22 k25 k28 k35 k37;dsimp only [Sig.oper];generalize c.eval=ρ at *;go_simp;done)) | (refine .inl fun pos af=>?_;clear k3 k16 k22 k25 k28 k35 k37;dsimp only [Sig.oper];generalize c.eval=ρ at *;go_simp;simp only [decide_eq_true_eq,decide_eq_false_iff_not] at *;omega))))
 exact below_zero
def VGCFF (G O C:Nat) (e:Int) (g0 g1 g2 g3 o0 o1 o2 o3 c0 c1 c2 c3:Value) (fn:Bool):List Value:=[.int .i64 e,.bool false,.agg #[g0,g1,g2,g3],.bool false,.bool false,.bool false,.int .i64 e,.bool true,.bool true,.int .i64 e,.bool false,.bool false,.bool false,.bool false,.agg #[c0,c1,c2,c3],.agg #[g0,g1,g2,g3],.bool true,.bool false,.bool false,.bool false,.agg #[g0,g1,g2,g3],.agg #[o0,o1,o2,o3],.bool false,.agg #[g0,g1,g2,g3],.agg #[o0,o1,o2,o3],.bool false,.bool false,undef,undef,.bool false,.bool false,.bool false,.bool false,.agg #[g0,g1,g2,g3],.agg #[c0,c1,c2,c3],.bool fn,.agg #[g0,g1,g2,g3],.bool fn,.bool false,.bool false]
structure WorldGCFF (G O C:Nat) (e:Int) (g0 g1 g2 g3 o0 o1 o2 o3 c0 c1 c2 c3:Value) (fn:Bool) (w:World):Prop where
 a1:(e==0)=false
 xg0:w.cell? ⟨G,0,none⟩=some (g0)
 xg1:w.cell? ⟨G,1,none⟩=some (g1)
 xg2:w.cell? ⟨G,2,none⟩=some (g2)
 xg3:w.cell? ⟨G,3,none⟩=some (g3)
 k3:Calls Tryz.prog 14 #[.agg #[g0,g1,g2,g3]] w fun e w'=>e=.returned (.bool false)∧Below w.heap.size w w'
 a7:(e != 0)=true
 a10:(e != 2)=false
 xc0:w.cell? ⟨C,0,none⟩=some (c0)
 xc1:w.cell? ⟨C,1,none⟩=some (c1)
 xc2:w.cell? ⟨C,2,none⟩=some (c2)
 xc3:w.cell? ⟨C,3,none⟩=some (c3)
 k16:Calls Tryz.prog 15 #[.agg #[c0,c1,c2,c3],.agg #[g0,g1,g2,g3]] w fun e w'=>e=.returned (.bool true)∧Below w.heap.size w w'
 xo0:w.cell? ⟨O,0,none⟩=some (o0)
 xo1:w.cell? ⟨O,1,none⟩=some (o1)
 xo2:w.cell? ⟨O,2,none⟩=some (o2)
 xo3:w.cell? ⟨O,3,none⟩=some (o3)
 k22:Calls Tryz.prog 16 #[.agg #[g0,g1,g2,g3],.agg #[o0,o1,o2,o3]] w fun e w'=>e=.returned (.bool false)∧Below w.heap.size w w'
 k25:Calls Tryz.prog 15 #[.agg #[g0,g1,g2,g3],.agg #[o0,o1,o2,o3]] w fun e w'=>e=.returned (.bool false)∧Below w.heap.size w w'
 k35:Calls Tryz.prog 16 #[.agg #[g0,g1,g2,g3],.agg #[c0,c1,c2,c3]] w fun e w'=>e=.returned (.bool fn)∧Below w.heap.size w w'
 k37:Calls Tryz.prog 17 #[.agg #[g0,g1,g2,g3]] w fun e w'=>e=.returned (.bool fn)∧Below w.heap.size w w'
theorem regionGCFF (G O C:Nat) (e:Int) (g0 g1 g2 g3 o0 o1 o2 o3 c0 c1 c2 c3:Value) (fn:Bool) (Q:Exit→Act→World→Prop) (base:Act) (w0:World) (hsz:base.tmps.size=91) (hb:BaseGC6 G O C e g0 g1 g2 g3 o0 o1 o2 o3 c0 c1 c2 c3 fn base)
  (hW:∀ w,Below w0.heap.size w0 w→WorldGCFF G O C e g0 g1 g2 g3 o0 o1 o2 o3 c0 c1 c2 c3 fn w) (hQ:∀ c w,Same RGC6 base c→Below w0.heap.size w0 w→c.eval (.tmp 64)=.bool false→Q .normal c w):(Code.region 6 RGC6 true).wp Tryz.prog Q base w0:=by
 refine told_rule (B:=BaseGC6 G O C e g0 g1 g2 g3 o0 o1 o2 o3 c0 c1 c2 c3 fn) (T:=WorldGCFF G O C e g0 g1 g2 g3 o0 o1 o2 o3 c0 c1 c2 c3 fn) (n:=40) (k:=39) LGC6 AGC6 (VGCFF G O C e g0 g1 g2 g3 o0 o1 o2 o3 c0 c1 c2 c3 fn) hLGC6 rfl (by kernel_rfl) (by kernel_rfl) (by kernel_rfl) (by rw [hsz];kernel_rfl) (fun c hS=>⟨(same_eval hS (by kernel_rfl)).trans hb.t2,(same_eval hS (by kernel_rfl)).trans hb.t3,(same_eval hS (by kernel_rfl)).trans hb.t5,(same_eval hS (by kernel_rfl)).trans hb.t6⟩) hW ?_ (by decide) rfl rfl hQ
 clear hsz hb hW hQ
 iterate 40 (refine below_succ ?_ (by
  intro c w hb hW hEq
  obtain ⟨t2,t3,t5,t6⟩:=hb
  obtain ⟨a1,xg0,xg1,xg2,xg3,k3,a7,a10,xc0,xc1,xc2,xc3,k16,xo0,xo1,xo2,xo3,k22,k25,k35,k37⟩:=hW
  have ec:=evc c
  have ef:=evf c
  dsimp only [AGC6,LGC6,VGCFF,nth,EqAt,look,OpGoal] at hEq ⊢
  first
  | exact ⟨by first | exact hEq.1 | exact hEq.2.1 | exact hEq.2.2.1 | exact hEq.2.2.2.1,.inr ⟨.inl rfl,rfl⟩⟩
  | exact ⟨by first | exact hEq.1 | exact hEq.2.1 | exact hEq.2.2.1 | exact hEq.2.2.2.1,.inr ⟨.inr rfl,rfl⟩⟩
  | ((try refine ⟨by first | exact hEq.1 | exact hEq.2.1 | exact hEq.2.2.1 | exact hEq.2.2.2.1,.inl ⟨rfl,?_⟩⟩);first | (refine od_static Tryz.call14 k3 ?_;simp only [List.map_toArray,List.map_cons,List.map_nil,hEq];done) | (refine od_static Tryz.call15 k16 ?_;simp only [List.map_toArray,List.map_cons,List.map_nil,hEq];done) | (refine od_static Tryz.call16 k22 ?_;simp only [List.map_toArray,List.map_cons,List.map_nil,hEq];done) | (refine od_static Tryz.call15 k25 ?_;simp only [List.map_toArray,List.map_cons,List.map_nil,hEq];done) | (refine od_static Tryz.call16 k35 ?_;simp only [List.map_toArray,List.map_cons,List.map_nil,hEq];done) | (refine od_static Tryz.call17 k37 ?_;simp only [List.map_toArray,List.map_cons,List.map_nil,hEq];done) | (refine .inl fun pos af=>?_;(clear k3 k16 k22 k25 k35 k37;dsimp only [Sig.oper];generalize c.eval=ρ at *;go_simp;done)) | (refine .inl fun pos af=>?_;clear k3 k16 k22 k25 k35 k37;dsimp only [Sig.oper];generalize c.eval=ρ at *;go_simp;simp only [decide_eq_true_eq,decide_eq_false_iff_not] at *;omega))))
 exact below_zero
end Go.Proofs.YteddjlbfbpecjaaGreatDoor

namespace Go.Proofs.YteddjlbfbpecjaaGreatDoor
open Go.RowKit
set_option linter.unusedVariables false
variable {P:Program} {R:Array Oper} {Q:Exit→Act→World→Prop}
theorem sig_atT {L:List Sig} (hL:(sigsOf R).take L.length=L.map some) {i:Nat} {s:Sig} (hi:L[i]?=some s):∃ pos af,R[i]?=some (s.oper pos af):=by
 have hl:=(List.getElem?_eq_some_iff.1 hi).1
 have h1:(sigsOf R)[i]?=some (some s):=by
  rw [← List.getElem?_take_of_lt hl,hL,List.getElem?_map,hi];rfl
 unfold sigsOf at h1
 rw [List.getElem?_map,Array.getElem?_toList] at h1
 obtain ⟨o,ho,h2⟩:=Option.map_eq_some_iff.1 h1
 obtain ⟨d,op,ty,pos,af,g⟩:=o
 unfold sigOf at h2
 cases d with
 | none=>cases h2
 | some d =>
  simp only [Option.map_some,Option.some.injEq] at h2
  subst h2
  exact ⟨pos,af,ho⟩
theorem val_lookT {L:List Sig} (hL:(sigsOf R).take L.length=L.map some) (c:Act) (q:Nat) (hq:q<L.length):val R c q=look L c q:=by
 obtain ⟨s,hs⟩:∃ s,L[q]?=some s:=⟨_,List.getElem?_eq_getElem hq⟩
 obtain ⟨pos,af,h⟩:=sig_atT hL hs
 unfold look val slotOf
 rw [h,nth_some hs];rfl
def FactsL (L:List Sig) (fs:List (Value→World→Prop)) (c:Act) (w:World):List Nat→Prop
 | []=>True
 | q::r=>nth (fun _ _=>True) fs q (look L c q) w∧FactsL L fs c w r
theorem factsL_of {L:List Sig} (hL:(sigsOf R).take L.length=L.map some) {fs:List (Value→World→Prop)} {c:Act} {w:World}:∀ {l:List Nat},(∀ q ∈ l,q<L.length)→(∀ q ∈ l,factsAt fs q (val R c q) w)→FactsL L fs c w l
 | [],_,_=>trivial
 | q::r,hl,h=>⟨by
   have:=h q List.mem_cons_self
   rw [val_lookT hL c q (hl q List.mem_cons_self)] at this
   unfold factsAt at this
   rw [nth_getD];exact this,factsL_of hL (fun j hj=>hl j (List.mem_cons_of_mem _ hj)) fun j hj=>h j (List.mem_cons_of_mem _ hj)⟩
theorem does_told {L:List Sig} (hL:(sigsOf R).take L.length=L.map some) {i:Nat} {F:Nat→Value→World→Prop} {v:Value} {c:Act} {w:World} (hi:i<L.length) (hg:(nth noSig L i).g=none) (hF:∀ w',F i v w') (h:OpDo P (nth noSig L i) v c w):Does P R Q F i c w:=by
 obtain ⟨s,hs⟩:∃ s,L[i]?=some s:=⟨_,List.getElem?_eq_getElem hi⟩
 obtain ⟨pos,af,ho⟩:=sig_atT hL hs
 rw [nth_some hs] at h hg
 rcases h with h | ⟨f,args,h1,h2⟩
 ·exact does_value ho (want_none hg) (h pos af) (hF _) (Below.refl _ _)
 ·exact does_call ho (want_none hg) (h1 pos af) (h2.mono fun e w' ⟨e1,e2⟩=>⟨_,e1,hF _,e2⟩)
end Go.Proofs.YteddjlbfbpecjaaGreatDoor

namespace Go.Proofs.YteddjlbfbpecjaaGreatDoor
open Go.RowKit Go.Shelf
set_option linter.unusedVariables false
set_option linter.unusedSimpArgs false
attribute [local go_sem] Oper.semAt_some
def ruL  : List Value:=[.func (.func 93) #[] #[],.func (.func 94) #[] #[],.func (.func 95) #[] #[],.func (.func 96) #[] #[],.func (.func 97) #[] #[],.func (.func 98) #[] #[]]
set_option maxRecDepth 100000 in
theorem rules_any (w:World):Calls Tryz.prog 34 #[] w fun e w'=>e=.returned (.slice (some ⟨w.heap.size,0,none⟩) 6 6)∧Below w.heap.size w w'∧∀ q v,ruL[q]?=some v→w'.cell? ⟨w.heap.size,q,none⟩=some v:=by
 go_enter Tryz.func34,Tryz.ntmps34
 go_wp2_with fail
 generalize hW1:World.alloc _ _=W1
 have HB1:Hid (Below w.heap.size w W1):=by rw [← hW1];exact (Below.refl _ _).alloc (Nat.le_refl _) _
 have HT:Hid (∀ q v,ruL[q]?=some v→W1.cell? ⟨w.heap.size,q,none⟩=some v):=by
  intro q v hq
  rw [← hW1]
  refine cell_new _ _ _ _ _ ?_
  have:ruL.toArray[q]?=some v:=by rw [List.getElem?_toArray,hq]
  exact this
 clear hW1
 go_ret
 exact ⟨rfl,HB1.out,HT.out⟩
end Go.Proofs.YteddjlbfbpecjaaGreatDoor

namespace Go.Proofs.YteddjlbfbpecjaaGreatDoor
open Go.RowKit Go.Shelf Go.Maps
set_option linter.unusedVariables false
set_option linter.unusedSimpArgs false
def I64 (k:Int):Prop:=(Lit.int .i64 k).wf=true
def MI (w:World) (b:Nat) (es:List (Int × Value)):Prop:=∃ ar clock,w.heap[b]?=some (.map ar clock)∧ar.toList.map (fun e=>(e.key,e.val))=es.map (fun p=>(Value.int .i64 p.1,p.2))∧(∀ p ∈ es,I64 p.1)∧MapKept.Stamped ar clock
theorem MI.block {w w':World} {b:Nat} {es:List (Int × Value)} (h:MI w b es) (hb:w'.heap[b]?=w.heap[b]?):MI w' b es:=by
 obtain ⟨ar,c,h1,h2⟩:=h
 exact ⟨ar,c,hb.trans h1,h2⟩
theorem MI.lt {w:World} {b:Nat} {es:List (Int × Value)} (h:MI w b es):b<w.heap.size:=by
 obtain ⟨ar,c,h1,_⟩:=h
 exact (Array.getElem?_eq_some_iff.1 h1).1
theorem MI.below {B:Nat} {w w':World} {b:Nat} {es:List (Int × Value)} (h:MI w b es) (hb:Below B w w') (hB:w.heap.size≤B):MI w' b es:=h.block (hb.block b (Nat.lt_of_lt_of_le h.lt hB))
theorem mi_none (w:World):MI (w.alloc (.map #[] 0)) w.heap.size []:=⟨#[],0,World.alloc_heap_new _ _,rfl,by simp,MapKept.stamped_empty _⟩
theorem mi_keys {ar:Array MapEntry} {es:List (Int × Value)} (h:ar.toList.map (fun e=>(e.key,e.val))=es.map (fun p=>(Value.int .i64 p.1,p.2))) (hs:∀ p ∈ es,I64 p.1):∀ e ∈ ar.toList,∃ l,Go.keyOf Tryz.prog 2 e.key=some l:=by
 intro e he
 have:(e.key,e.val) ∈ es.map (fun p=>(Value.int .i64 p.1,p.2)):=by rw [← h];exact List.mem_map.2 ⟨e,he,rfl⟩
 obtain ⟨p,hm,e1⟩:=List.mem_map.1 this
 have e2:Value.int .i64 p.1=e.key:=congrArg Prod.fst e1
 exact ⟨_,by rw [← e2];exact keyOf_int_mk Tryz.underlying2 (hs p hm)⟩
theorem mi_mem {ar:Array MapEntry} {es:List (Int × Value)} (h:ar.toList.map (fun e=>(e.key,e.val))=es.map (fun p=>(Value.int .i64 p.1,p.2))) {e:MapEntry} (he:e ∈ ar.toList):∃ p ∈ es,e.key=.int .i64 p.1∧e.val=p.2:=by
 have:(e.key,e.val) ∈ es.map (fun p=>(Value.int .i64 p.1,p.2)):=by rw [← h];exact List.mem_map.2 ⟨e,he,rfl⟩
 obtain ⟨p,hm,e1⟩:=List.mem_map.1 this
 exact ⟨p,hm,(congrArg Prod.fst e1).symm,(congrArg Prod.snd e1).symm⟩
theorem mi_miss {t e:TypeId} {z:Value} (ht:Tryz.prog.underlying t=some (.map 2 e)) (hz:∀ w,(zeroValue e).run Tryz.prog w=.ok z w) {w:World} {b:Nat} {es:List (Int × Value)} (h:MI w b es) (k:Int) (hk:I64 k) (hn:∀ p ∈ es,p.1≠k) :
  (Instr.lookup t (.map (some b)) (.int .i64 k) true).run Tryz.prog w=.ok (.tuple #[z,.bool false]) w∧(Instr.lookup t (.map (some b)) (.int .i64 k) false).run Tryz.prog w=.ok z w:=by
 obtain ⟨ar,clock,h1,h2,h3,hS⟩:=h
 have K:=int_keyed (P:=Tryz.prog) Tryz.underlying2
 have hkey:=keyOf_int_mk (P:=Tryz.prog) Tryz.underlying2 hk
 rcases K.find w hkey ar.toList (mi_keys h2 h3) with ⟨f1,f2⟩ | ⟨j,e0,f1,f2,f3⟩
 ·constructor<;>simp [Instr.lookup,run_underlying ht,MapKept.run_getObj_map h1,K.check w _ hkey,f1,hz,Result.andThen]
 ·exfalso
  obtain ⟨p,hp,e1,_⟩:=mi_mem h2 (List.mem_of_getElem? f2)
  rw [f3] at e1
  have:k=p.1:=by injection e1
  exact hn p hp this.symm
theorem mi_hit {t e:TypeId} {z:Value} (ht:Tryz.prog.underlying t=some (.map 2 e)) {w:World} {b:Nat} {es:List (Int × Value)} (h:MI w b es) (k:Int) (v:Value) (hk:I64 k) (hm:(k,v) ∈ es) (hu:∀ p ∈ es,p.1=k→p.2=v) :
  (Instr.lookup t (.map (some b)) (.int .i64 k) true).run Tryz.prog w=.ok (.tuple #[v,.bool true]) w∧(Instr.lookup t (.map (some b)) (.int .i64 k) false).run Tryz.prog w=.ok v w:=by
 obtain ⟨ar,clock,h1,h2,h3,hS⟩:=h
 have K:=int_keyed (P:=Tryz.prog) Tryz.underlying2
 have hkey:=keyOf_int_mk (P:=Tryz.prog) Tryz.underlying2 hk
 rcases K.find w hkey ar.toList (mi_keys h2 h3) with ⟨f1,f2⟩ | ⟨j,e0,f1,f2,f3⟩
 ·exfalso
  have:(Value.int .i64 k,v) ∈ ar.toList.map (fun e=>(e.key,e.val)):=by rw [h2];exact List.mem_map.2 ⟨_,hm,rfl⟩
  obtain ⟨e,he,e1⟩:=List.mem_map.1 this
  exact f2 e he (congrArg Prod.fst e1)
 ·obtain ⟨p,hp,e1,e2⟩:=mi_mem h2 (List.mem_of_getElem? f2)
  rw [f3] at e1
  have e3':k=p.1:=by injection e1
  have e3:p.1=k:=e3'.symm
  have e4:e0.val=v:=e2.trans (hu p hp e3)
  rw [e4] at f1
  clear e4 e2 e3 e3' e1 hu hm hp
  constructor<;>simp [Instr.lookup,run_underlying ht,MapKept.run_getObj_map h1,K.check w _ hkey,f1,Result.andThen]
theorem mi_new {t e:TypeId} (ht:Tryz.prog.underlying t=some (.map 2 e)) {w:World} {b:Nat} {es:List (Int × Value)} (h:MI w b es) (k:Int) (v:Value) (hk:I64 k) (hn:∀ p ∈ es,p.1≠k) :
  ∃ w',(Instr.mapUpdate t (.map (some b)) (.int .i64 k) v).run Tryz.prog w=.ok () w'∧MI w' b (es++[(k,v)])∧w'.heap.size=w.heap.size∧(∀ i,i≠b→w'.heap[i]?=w.heap[i]?)∧Below b w w':=by
 obtain ⟨ar,clock,h1,h2,h3,hS⟩:=h
 have hlt:b<w.heap.size:=(Array.getElem?_eq_some_iff.1 h1).1
 have K:=int_keyed (P:=Tryz.prog) Tryz.underlying2
 have hkey:=keyOf_int_mk (P:=Tryz.prog) Tryz.underlying2 hk
 rcases K.find w hkey ar.toList (mi_keys h2 h3) with ⟨f1,f2⟩ | ⟨j,e0,f1,f2,f3⟩
 ·refine ⟨{ w with heap:=w.heap.setIfInBounds b (.map (ar.push ⟨.int .i64 k,v,clock⟩) (clock+1)) },?_,⟨ar.push ⟨.int .i64 k,v,clock⟩,clock+1,?_,?_,?_,MapKept.stamped_push hS f2⟩,?_,?_,⟨rfl,rfl,rfl,?_,?_⟩⟩
  ·simp [Instr.mapUpdate,run_underlying ht,MapKept.run_getObj_map h1,K.check w false hkey,f1,MapKept.run_setObj_map _ h1,Result.andThen]
  ·simp [hlt]
  ·simp [h2]
  ·intro p hp
   rcases List.mem_append.1 hp with hp | hp
   ·exact h3 p hp
   ·simp only [List.mem_cons,List.not_mem_nil,or_false] at hp;rw [hp];exact hk
  ·simp
  ·intro i hi
   simp [Array.getElem?_setIfInBounds_ne (Ne.symm hi)]
  ·simp
  ·intro i hi
   have:i≠b:=by omega
   simp [Array.getElem?_setIfInBounds_ne (Ne.symm this)]
 ·exfalso
  obtain ⟨p,hp,e1,_⟩:=mi_mem h2 (List.mem_of_getElem? f2)
  rw [f3] at e1
  have:k=p.1:=by injection e1
  exact hn p hp this.symm
theorem mi_set {t e:TypeId} (ht:Tryz.prog.underlying t=some (.map 2 e)) {w:World} {b:Nat} {es:List (Int × Value)} (h:MI w b es) (j:Nat) (k:Int) (v0 v:Value) (hk:I64 k) (hj:es[j]?=some (k,v0)) (hu:∀ i p,es[i]?=some p→p.1=k→i=j) :
  ∃ w',(Instr.mapUpdate t (.map (some b)) (.int .i64 k) v).run Tryz.prog w=.ok () w'∧MI w' b (es.set j (k,v))∧w'.heap.size=w.heap.size∧(∀ i,i≠b→w'.heap[i]?=w.heap[i]?)∧Below b w w':=by
 obtain ⟨ar,clock,h1,h2,h3,hS⟩:=h
 have hlt:b<w.heap.size:=(Array.getElem?_eq_some_iff.1 h1).1
 have K:=int_keyed (P:=Tryz.prog) Tryz.underlying2
 have hkey:=keyOf_int_mk (P:=Tryz.prog) Tryz.underlying2 hk
 rcases K.find w hkey ar.toList (mi_keys h2 h3) with ⟨f1,f2⟩ | ⟨i,e0,f1,f2,f3⟩
 ·exfalso
  have:(Value.int .i64 k,v0) ∈ ar.toList.map (fun e=>(e.key,e.val)):=by rw [h2];exact List.mem_map.2 ⟨_,List.mem_of_getElem? hj,rfl⟩
  obtain ⟨e,he,e1⟩:=List.mem_map.1 this
  exact f2 e he (congrArg Prod.fst e1)
 ·have hi2:(es.map (fun p=>(Value.int .i64 p.1,p.2)))[i]?=some (e0.key,e0.val):=by rw [← h2,List.getElem?_map,f2];rfl
  rw [List.getElem?_map] at hi2
  obtain ⟨p,hp,e1⟩:=Option.map_eq_some_iff.1 hi2
  have e2:Value.int .i64 p.1=.int .i64 k:=(congrArg Prod.fst e1).trans f3
  have e3:p.1=k:=by injection e2
  have hij:=hu i p hp e3
  subst hij
  have hil:i<ar.size:=by
   have:=(List.getElem?_eq_some_iff.1 f2).1
   simpa using this
  have hst:=K.stays w hkey
  have hai:ar[i]?=some e0:=by rw [← Array.getElem?_toList];exact f2
  have hrun:(Instr.mapUpdate t (.map (some b)) (.int .i64 k) v).run Tryz.prog w=.ok () { w with heap:=w.heap.setIfInBounds b (.map (ar.modify i fun e=>{ e with key:=.int .i64 k,val:=v }) clock) }:=by
   simp [Instr.mapUpdate,run_underlying ht,MapKept.run_getObj_map h1,K.check w false hkey,f1,hai,f3,hst,MapKept.run_setObj_map _ h1,Result.andThen]
  refine ⟨_,hrun,⟨ar.modify i fun e=>{ e with key:=.int .i64 k,val:=v },clock,?_,?_,?_,MapKept.stamped_modify hS i _ (fun _ _=>rfl) (fun e _ he=>by rw [hai] at he;cases he;exact f3.symm)⟩,?_,?_,⟨rfl,rfl,rfl,?_,?_⟩⟩
  ·simp [hlt]
  ·refine List.ext_getElem? fun m=>?_
   have hm2:=congrArg (fun l=>l[m]?) h2
   simp only [List.getElem?_map] at hm2
   simp only [List.getElem?_map,Array.getElem?_toList,Array.getElem?_modify,List.getElem?_set] at hm2 ⊢
   by_cases hmi:i=m
   ·subst hmi
    have hel:=(List.getElem?_eq_some_iff.1 hp).1
    simp [hai,hel]
   ·simp [hmi,hm2]
  ·intro p' hp'
   rcases List.mem_or_eq_of_mem_set hp' with h | h
   ·exact h3 p' h
   ·rw [h];exact hk
  ·simp
  ·intro q hq
   simp [Array.getElem?_setIfInBounds_ne (Ne.symm hq)]
  ·simp
  ·intro q hq
   have:q≠b:=by omega
   simp [Array.getElem?_setIfInBounds_ne (Ne.symm this)]
theorem map_erase {α β:Type} (f:α→β):∀ (l:List α) (j:Nat),(l.eraseIdx j).map f=(l.map f).eraseIdx j
 | [],j=>by simp
 | x::l,0=>by simp
 | x::l,j+1=>by simp [map_erase f l j]
theorem mi_del {t e ty:TypeId} (ht:Tryz.prog.underlying t=some (.map 2 e)) {w:World} {b:Nat} {es:List (Int × Value)} (h:MI w b es) (j:Nat) (k:Int) (v0:Value) (hk:I64 k) (hj:es[j]?=some (k,v0)) (hu:∀ i p,es[i]?=some p→p.1=k→i=j) :
  ∃ w',(Builtin.delete_ #[t,2] ty #[.map (some b),.int .i64 k]).run Tryz.prog w=.ok (.tuple #[]) w'∧MI w' b (es.eraseIdx j)∧w'.heap.size=w.heap.size∧(∀ i,i≠b→w'.heap[i]?=w.heap[i]?)∧Below b w w':=by
 obtain ⟨ar,clock,h1,h2,h3,hS⟩:=h
 have hlt:b<w.heap.size:=(Array.getElem?_eq_some_iff.1 h1).1
 have K:=int_keyed (P:=Tryz.prog) Tryz.underlying2
 have hkey:=keyOf_int_mk (P:=Tryz.prog) Tryz.underlying2 hk
 rcases K.find w hkey ar.toList (mi_keys h2 h3) with ⟨f1,f2⟩ | ⟨i,e0,f1,f2,f3⟩
 ·exfalso
  have:(Value.int .i64 k,v0) ∈ ar.toList.map (fun e=>(e.key,e.val)):=by rw [h2];exact List.mem_map.2 ⟨_,List.mem_of_getElem? hj,rfl⟩
  obtain ⟨e,he,e1⟩:=List.mem_map.1 this
  exact f2 e he (congrArg Prod.fst e1)
 ·have hi2:(es.map (fun p=>(Value.int .i64 p.1,p.2)))[i]?=some (e0.key,e0.val):=by rw [← h2,List.getElem?_map,f2];rfl
  rw [List.getElem?_map] at hi2
  obtain ⟨p,hp,e1⟩:=Option.map_eq_some_iff.1 hi2
  have e2:Value.int .i64 p.1=.int .i64 k:=(congrArg Prod.fst e1).trans f3
  have e3:p.1=k:=by injection e2
  have hij:=hu i p hp e3
  subst hij
  have hil:i<ar.size:=by
   have:=(List.getElem?_eq_some_iff.1 f2).1
   simpa using this
  have hrun:(Builtin.delete_ #[t,2] ty #[.map (some b),.int .i64 k]).run Tryz.prog w=.ok (.tuple #[]) { w with heap:=w.heap.setIfInBounds b (.map (ar.eraseIdxIfInBounds i) clock) }:=by
   simp [Builtin.delete_,run_underlying ht,MapKept.run_getObj_map h1,K.check w _ hkey,f1,MapKept.run_setObj_map _ h1,Result.andThen]
  refine ⟨_,hrun,⟨ar.eraseIdxIfInBounds i,clock,?_,?_,?_,MapKept.stamped_erase hS i⟩,?_,?_,⟨rfl,rfl,rfl,?_,?_⟩⟩
  ·simp [hlt]
  ·rw [Array.toList_eraseIdxIfInBounds,map_erase,h2,map_erase]
  ·intro p' hp'
   exact h3 p' (List.mem_of_mem_eraseIdx hp')
  ·simp
  ·intro q hq
   simp [Array.getElem?_setIfInBounds_ne (Ne.symm hq)]
  ·simp
  ·intro q hq
   have:q≠b:=by omega
   simp [Array.getElem?_setIfInBounds_ne (Ne.symm this)]
end Go.Proofs.YteddjlbfbpecjaaGreatDoor

