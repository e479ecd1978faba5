/- Alike: the document's word of two values, whatever they are. -/
import Derived.Test.YteddjlbfbpecjaaGreatDoorJoin2
import Derived.Test.YteddjlbfbpecjaaGreatDoorJoin5
import Derived.Test.YteddjlbfbpecjaaGreatDoorJoin6
namespace Go.Proofs.YteddjlbfbpecjaaGreatDoor
open Go.RowKit Go.Shelf Go.WideShapes
set_option maxHeartbeats 8000000
set_option maxRecDepth 100000
set_option linter.unusedVariables false
set_option linter.unusedSimpArgs false
noncomputable def RK6  : Array Oper:=regionAt Tryz.f151 6
def LK6  : List Sig:=[⟨58,.fieldAddr 60 (.tmp 2) 4,0,none⟩,⟨59,.load 44 (.tmp 58),44,none⟩,⟨60,.move (.tmp 5),3,none⟩,⟨61,.indexAddr 44 (.tmp 59) (.tmp 60),0,none⟩,⟨62,.load 9 (.tmp 61),9,none⟩,⟨63,.fieldAddr 60 (.tmp 3) 4,0,none⟩,⟨64,.load 44 (.tmp 63),44,none⟩,⟨65,.move (.tmp 5),3,none⟩,⟨66,.indexAddr 44 (.tmp 64) (.tmp 65),0,none⟩,⟨67,.load 9 (.tmp 66),9,none⟩,⟨68,.binOp .neq 9 (.tmp 62) (.tmp 67) 9,4,none⟩]
theorem hLK6  : sigsOf RK6=LK6.map some:=by kernel_rfl
def AK6  : List (List Nat):=[[],[0],[],[1,2],[3],[],[5],[],[6,7],[8],[4,9]]
structure BaseK6 (G H bl off kl kc bl2 off2 kl2 kc2 j:Nat) (x y:ByteArray) (c:Act):Prop where
 t2:c.eval (.tmp 2)=.pointer (some ⟨G,0,none⟩)
 t3:c.eval (.tmp 3)=.pointer (some ⟨H,0,none⟩)
 t5:c.eval (.tmp 5)=.int .i64 (j:Int)
def VKA (G H bl off kl kc bl2 off2 kl2 kc2 j:Nat) (x y:ByteArray):List Value:=[.pointer (some ⟨G,4,none⟩),.slice (some ⟨bl,off,none⟩) kl kc,.int .i64 (j:Int),.pointer (some ⟨bl,off+j,none⟩),.string x,.pointer (some ⟨H,4,none⟩),.slice (some ⟨bl2,off2,none⟩) kl2 kc2,.int .i64 (j:Int),.pointer (some ⟨bl2,off2+j,none⟩),.string y,.bool true]
structure WorldKA (G H bl off kl kc bl2 off2 kl2 kc2 j:Nat) (x y:ByteArray) (w:World):Prop where
 g:w.cell? ⟨G,4,none⟩=some (.slice (some ⟨bl,off,none⟩) kl kc)
 lt:j<kl
 le:kl≤9223372036854775807
 cx:w.cell? ⟨bl,off+j,none⟩=some (.string x)
 h:w.cell? ⟨H,4,none⟩=some (.slice (some ⟨bl2,off2,none⟩) kl2 kc2)
 lt2:j<kl2
 le2:kl2≤9223372036854775807
 cy:w.cell? ⟨bl2,off2+j,none⟩=some (.string y)
 a1:(!(x.toList==y.toList))=true
theorem regionKA (G H bl off kl kc bl2 off2 kl2 kc2 j:Nat) (x y:ByteArray) (Q:Exit→Act→World→Prop) (base:Act) (w0:World) (hsz:base.tmps.size=88) (hb:BaseK6 G H bl off kl kc bl2 off2 kl2 kc2 j x y base)
  (hW:∀ w,Below w0.heap.size w0 w→WorldKA G H bl off kl kc bl2 off2 kl2 kc2 j x y w) (hQ:∀ c w,Same RK6 base c→Below w0.heap.size w0 w→c.eval (.tmp 68)=.bool true→Q .normal c w):(Code.region 6 RK6 true).wp Tryz.prog Q base w0:=by
 refine told_rule (B:=BaseK6 G H bl off kl kc bl2 off2 kl2 kc2 j x y) (T:=WorldKA G H bl off kl kc bl2 off2 kl2 kc2 j x y) (n:=11) (k:=10) LK6 AK6 (VKA G H bl off kl kc bl2 off2 kl2 kc2 j x y) hLK6 rfl (by kernel_rfl) (by kernel_rfl) (by kernel_rfl) (by rw [hsz];kernel_rfl) (fun c hS=>⟨(same_eval hS (by kernel_rfl)).trans hb.t2,(same_eval hS (by kernel_rfl)).trans hb.t3,(same_eval hS (by kernel_rfl)).trans hb.t5⟩) hW ?_ (by decide) rfl rfl hQ
 clear hsz hb hW hQ
 iterate 11 (refine below_succ ?_ (by
  intro c w hb hW hEq
  obtain ⟨t2,t3,t5⟩:=hb
  obtain ⟨g,lt,le,cx,h,lt2,le2,cy,a1⟩:=hW
  have ec:=evc c
  have ef:=evf c
  dsimp only [AK6,LK6,VKA,nth,EqAt,look,OpGoal] at hEq ⊢
  first
  | exact ⟨by first | exact hEq.1 | exact hEq.2.1 | exact hEq.2.2.1 | exact hEq.2.2.2.1,.inr ⟨.inl rfl,rfl⟩⟩
  | exact ⟨by first | exact hEq.1 | exact hEq.2.1 | exact hEq.2.2.1 | exact hEq.2.2.2.1,.inr ⟨.inr rfl,rfl⟩⟩
  | ((try refine ⟨by first | exact hEq.1 | exact hEq.2.1 | exact hEq.2.2.1 | exact hEq.2.2.2.1,.inl ⟨rfl,?_⟩⟩);first | (refine .inl fun pos af=>?_;(dsimp only [Sig.oper];generalize c.eval=ρ at *;go_simp;done)) | (refine .inl fun pos af=>?_;dsimp only [Sig.oper];generalize c.eval=ρ at *;go_simp;simp only [decide_eq_true_eq,decide_eq_false_iff_not] at *;omega))))
 exact below_zero
def VKB (G H bl off kl kc bl2 off2 kl2 kc2 j:Nat) (x y:ByteArray):List Value:=[.pointer (some ⟨G,4,none⟩),.slice (some ⟨bl,off,none⟩) kl kc,.int .i64 (j:Int),.pointer (some ⟨bl,off+j,none⟩),.string x,.pointer (some ⟨H,4,none⟩),.slice (some ⟨bl2,off2,none⟩) kl2 kc2,.int .i64 (j:Int),.pointer (some ⟨bl2,off2+j,none⟩),.string y,.bool false]
structure WorldKB (G H bl off kl kc bl2 off2 kl2 kc2 j:Nat) (x y:ByteArray) (w:World):Prop where
 g:w.cell? ⟨G,4,none⟩=some (.slice (some ⟨bl,off,none⟩) kl kc)
 lt:j<kl
 le:kl≤9223372036854775807
 cx:w.cell? ⟨bl,off+j,none⟩=some (.string x)
 h:w.cell? ⟨H,4,none⟩=some (.slice (some ⟨bl2,off2,none⟩) kl2 kc2)
 lt2:j<kl2
 le2:kl2≤9223372036854775807
 cy:w.cell? ⟨bl2,off2+j,none⟩=some (.string y)
 a1:(!(x.toList==y.toList))=false
theorem regionKB (G H bl off kl kc bl2 off2 kl2 kc2 j:Nat) (x y:ByteArray) (Q:Exit→Act→World→Prop) (base:Act) (w0:World) (hsz:base.tmps.size=88) (hb:BaseK6 G H bl off kl kc bl2 off2 kl2 kc2 j x y base)
  (hW:∀ w,Below w0.heap.size w0 w→WorldKB G H bl off kl kc bl2 off2 kl2 kc2 j x y w) (hQ:∀ c w,Same RK6 base c→Below w0.heap.size w0 w→c.eval (.tmp 68)=.bool false→Q .normal c w):(Code.region 6 RK6 true).wp Tryz.prog Q base w0:=by
 refine told_rule (B:=BaseK6 G H bl off kl kc bl2 off2 kl2 kc2 j x y) (T:=WorldKB G H bl off kl kc bl2 off2 kl2 kc2 j x y) (n:=11) (k:=10) LK6 AK6 (VKB G H bl off kl kc bl2 off2 kl2 kc2 j x y) hLK6 rfl (by kernel_rfl) (by kernel_rfl) (by kernel_rfl) (by rw [hsz];kernel_rfl) (fun c hS=>⟨(same_eval hS (by kernel_rfl)).trans hb.t2,(same_eval hS (by kernel_rfl)).trans hb.t3,(same_eval hS (by kernel_rfl)).trans hb.t5⟩) hW ?_ (by decide) rfl rfl hQ
 clear hsz hb hW hQ
 iterate 11 (refine below_succ ?_ (by
  intro c w hb hW hEq
  obtain ⟨t2,t3,t5⟩:=hb
  obtain ⟨g,lt,le,cx,h,lt2,le2,cy,a1⟩:=hW
  have ec:=evc c
  have ef:=evf c
  dsimp only [AK6,LK6,VKB,nth,EqAt,look,OpGoal] at hEq ⊢
  first
  | exact ⟨by first | exact hEq.1 | exact hEq.2.1 | exact hEq.2.2.1 | exact hEq.2.2.2.1,.inr ⟨.inl rfl,rfl⟩⟩
  | exact ⟨by first | exact hEq.1 | exact hEq.2.1 | exact hEq.2.2.1 | exact hEq.2.2.2.1,.inr ⟨.inr rfl,rfl⟩⟩
  | ((try refine ⟨by first | exact hEq.1 | exact hEq.2.1 | exact hEq.2.2.1 | exact hEq.2.2.2.1,.inl ⟨rfl,?_⟩⟩);first | (refine .inl fun pos af=>?_;(dsimp only [Sig.oper];generalize c.eval=ρ at *;go_simp;done)) | (refine .inl fun pos af=>?_;dsimp only [Sig.oper];generalize c.eval=ρ at *;go_simp;simp only [decide_eq_true_eq,decide_eq_false_iff_not] at *;omega))))
 exact below_zero
noncomputable def RK11  : Array Oper:=regionAt Tryz.f151 11
def LK11  : List Sig:=[⟨76,.fieldAddr 60 (.tmp 2) 5,0,none⟩,⟨77,.load 58 (.tmp 76),58,none⟩,⟨78,.move (.tmp 6),3,none⟩,⟨79,.indexAddr 58 (.tmp 77) (.tmp 78),0,none⟩,⟨80,.load 60 (.tmp 79),60,none⟩,⟨81,.fieldAddr 60 (.tmp 3) 5,0,none⟩,⟨82,.load 58 (.tmp 81),58,none⟩,⟨83,.move (.tmp 6),3,none⟩,⟨84,.indexAddr 58 (.tmp 82) (.tmp 83),0,none⟩,⟨85,.load 60 (.tmp 84),60,none⟩,⟨86,.call { callee:=.value (.func 151),args:=#[.tmp 80,.tmp 85],argTypes:=#[60,60] },4,none⟩,⟨87,.unOp .not 4 (.tmp 86),4,none⟩]
theorem hLK11  : sigsOf RK11=LK11.map some:=by kernel_rfl
def AK11  : List (List Nat):=[[],[0],[],[1,2],[3],[],[5],[],[6,7],[8],[4,9],[10]]
structure BaseK11 (G H bl off kl kc bl2 off2 kl2 kc2 j:Nat) (v0 v1 v2 v3 v4 v5 u0 u1 u2 u3 u4 u5:Value) (c:Act):Prop where
 t2:c.eval (.tmp 2)=.pointer (some ⟨G,0,none⟩)
 t3:c.eval (.tmp 3)=.pointer (some ⟨H,0,none⟩)
 t6:c.eval (.tmp 6)=.int .i64 (j:Int)
def VLKA (G H bl off kl kc bl2 off2 kl2 kc2 j:Nat) (v0 v1 v2 v3 v4 v5 u0 u1 u2 u3 u4 u5:Value):List Value:=[.pointer (some ⟨G,5,none⟩),.slice (some ⟨bl,off,none⟩) kl kc,.int .i64 (j:Int),.pointer (some ⟨bl,off+j*6,none⟩),.agg #[v0,v1,v2,v3,v4,v5],.pointer (some ⟨H,5,none⟩),.slice (some ⟨bl2,off2,none⟩) kl2 kc2,.int .i64 (j:Int),.pointer (some ⟨bl2,off2+j*6,none⟩),.agg #[u0,u1,u2,u3,u4,u5],.bool false,.bool true]
structure WorldLKA (G H bl off kl kc bl2 off2 kl2 kc2 j:Nat) (v0 v1 v2 v3 v4 v5 u0 u1 u2 u3 u4 u5:Value) (w:World):Prop where
 g:w.cell? ⟨G,5,none⟩=some (.slice (some ⟨bl,off,none⟩) kl kc)
 lt:j<kl
 le:kl≤9223372036854775807
 c0:w.cell? ⟨bl,off+j*6,none⟩=some (v0)
 c1:w.cell? ⟨bl,off+j*6+1,none⟩=some (v1)
 c2:w.cell? ⟨bl,off+j*6+2,none⟩=some (v2)
 c3:w.cell? ⟨bl,off+j*6+3,none⟩=some (v3)
 c4:w.cell? ⟨bl,off+j*6+4,none⟩=some (v4)
 c5:w.cell? ⟨bl,off+j*6+5,none⟩=some (v5)
 h:w.cell? ⟨H,5,none⟩=some (.slice (some ⟨bl2,off2,none⟩) kl2 kc2)
 lt2:j<kl2
 le2:kl2≤9223372036854775807
 d0:w.cell? ⟨bl2,off2+j*6,none⟩=some (u0)
 d1:w.cell? ⟨bl2,off2+j*6+1,none⟩=some (u1)
 d2:w.cell? ⟨bl2,off2+j*6+2,none⟩=some (u2)
 d3:w.cell? ⟨bl2,off2+j*6+3,none⟩=some (u3)
 d4:w.cell? ⟨bl2,off2+j*6+4,none⟩=some (u4)
 d5:w.cell? ⟨bl2,off2+j*6+5,none⟩=some (u5)
 k1:Calls Tryz.prog 151 #[.agg #[v0,v1,v2,v3,v4,v5],.agg #[u0,u1,u2,u3,u4,u5]] w fun e w'=>e=.returned (.bool false)∧Below w.heap.size w w'
theorem regionLKA (G H bl off kl kc bl2 off2 kl2 kc2 j:Nat) (v0 v1 v2 v3 v4 v5 u0 u1 u2 u3 u4 u5:Value) (Q:Exit→Act→World→Prop) (base:Act) (w0:World) (hsz:base.tmps.size=88) (hb:BaseK11 G H bl off kl kc bl2 off2 kl2 kc2 j v0 v1 v2 v3 v4 v5 u0 u1 u2 u3 u4 u5 base)
  (hW:∀ w,Below w0.heap.size w0 w→WorldLKA G H bl off kl kc bl2 off2 kl2 kc2 j v0 v1 v2 v3 v4 v5 u0 u1 u2 u3 u4 u5 w) (hQ:∀ c w,Same RK11 base c→Below w0.heap.size w0 w→c.eval (.tmp 87)=.bool true→Q .normal c w):(Code.region 11 RK11 true).wp Tryz.prog Q base w0:=by
 refine told_rule (B:=BaseK11 G H bl off kl kc bl2 off2 kl2 kc2 j v0 v1 v2 v3 v4 v5 u0 u1 u2 u3 u4 u5) (T:=WorldLKA G H bl off kl kc bl2 off2 kl2 kc2 j v0 v1 v2 v3 v4 v5 u0 u1 u2 u3 u4 u5) (n:=12) (k:=11) LK11 AK11 (VLKA G H bl off kl kc bl2 off2 kl2 kc2 j v0 v1 v2 v3 v4 v5 u0 u1 u2 u3 u4 u5) hLK11 rfl (by kernel_rfl) (by kernel_rfl) (by kernel_rfl) (by rw [hsz];kernel_rfl) (fun c hS=>⟨(same_eval hS (by kernel_rfl)).trans hb.t2,(same_eval hS (by kernel_rfl)).trans hb.t3,(same_eval hS (by kernel_rfl)).trans hb.t6⟩) hW ?_ (by decide) rfl rfl hQ
 clear hsz hb hW hQ
 iterate 12 (refine below_succ ?_ (by
  intro c w hb hW hEq
  obtain ⟨t2,t3,t6⟩:=hb
  obtain ⟨g,lt,le,c0,c1,c2,c3,c4,c5,h,lt2,le2,d0,d1,d2,d3,d4,d5,k1⟩:=hW
  have ec:=evc c
  have ef:=evf c
  dsimp only [AK11,LK11,VLKA,nth,EqAt,look,OpGoal] at hEq ⊢
  first
  | exact ⟨by first | exact hEq.1 | exact hEq.2.1 | exact hEq.2.2.1 | exact hEq.2.2.2.1,.inr ⟨.inl rfl,rfl⟩⟩
  | exact ⟨by first | exact hEq.1 | exact hEq.2.1 | exact hEq.2.2.1 | exact hEq.2.2.2.1,.inr ⟨.inr rfl,rfl⟩⟩
  | ((try refine ⟨by first | exact hEq.1 | exact hEq.2.1 | exact hEq.2.2.1 | exact hEq.2.2.2.1,.inl ⟨rfl,?_⟩⟩);first | (refine od_static Tryz.call151 k1 ?_;simp only [List.map_toArray,List.map_cons,List.map_nil,hEq];done) | (refine .inl fun pos af=>?_;(clear k1;dsimp only [Sig.oper];generalize c.eval=ρ at *;go_simp;done)))))
 exact below_zero
def VLKB (G H bl off kl kc bl2 off2 kl2 kc2 j:Nat) (v0 v1 v2 v3 v4 v5 u0 u1 u2 u3 u4 u5:Value):List Value:=[.pointer (some ⟨G,5,none⟩),.slice (some ⟨bl,off,none⟩) kl kc,.int .i64 (j:Int),.pointer (some ⟨bl,off+j*6,none⟩),.agg #[v0,v1,v2,v3,v4,v5],.pointer (some ⟨H,5,none⟩),.slice (some ⟨bl2,off2,none⟩) kl2 kc2,.int .i64 (j:Int),.pointer (some ⟨bl2,off2+j*6,none⟩),.agg #[u0,u1,u2,u3,u4,u5],.bool true,.bool false]
structure WorldLKB (G H bl off kl kc bl2 off2 kl2 kc2 j:Nat) (v0 v1 v2 v3 v4 v5 u0 u1 u2 u3 u4 u5:Value) (w:World):Prop where
 g:w.cell? ⟨G,5,none⟩=some (.slice (some ⟨bl,off,none⟩) kl kc)
 lt:j<kl
 le:kl≤9223372036854775807
 c0:w.cell? ⟨bl,off+j*6,none⟩=some (v0)
 c1:w.cell? ⟨bl,off+j*6+1,none⟩=some (v1)
 c2:w.cell? ⟨bl,off+j*6+2,none⟩=some (v2)
 c3:w.cell? ⟨bl,off+j*6+3,none⟩=some (v3)
 c4:w.cell? ⟨bl,off+j*6+4,none⟩=some (v4)
 c5:w.cell? ⟨bl,off+j*6+5,none⟩=some (v5)
 h:w.cell? ⟨H,5,none⟩=some (.slice (some ⟨bl2,off2,none⟩) kl2 kc2)
 lt2:j<kl2
 le2:kl2≤9223372036854775807
 d0:w.cell? ⟨bl2,off2+j*6,none⟩=some (u0)
 d1:w.cell? ⟨bl2,off2+j*6+1,none⟩=some (u1)
 d2:w.cell? ⟨bl2,off2+j*6+2,none⟩=some (u2)
 d3:w.cell? ⟨bl2,off2+j*6+3,none⟩=some (u3)
 d4:w.cell? ⟨bl2,off2+j*6+4,none⟩=some (u4)
 d5:w.cell? ⟨bl2,off2+j*6+5,none⟩=some (u5)
 k1:Calls Tryz.prog 151 #[.agg #[v0,v1,v2,v3,v4,v5],.agg #[u0,u1,u2,u3,u4,u5]] w fun e w'=>e=.returned (.bool true)∧Below w.heap.size w w'
theorem regionLKB (G H bl off kl kc bl2 off2 kl2 kc2 j:Nat) (v0 v1 v2 v3 v4 v5 u0 u1 u2 u3 u4 u5:Value) (Q:Exit→Act→World→Prop) (base:Act) (w0:World) (hsz:base.tmps.size=88) (hb:BaseK11 G H bl off kl kc bl2 off2 kl2 kc2 j v0 v1 v2 v3 v4 v5 u0 u1 u2 u3 u4 u5 base)
  (hW:∀ w,Below w0.heap.size w0 w→WorldLKB G H bl off kl kc bl2 off2 kl2 kc2 j v0 v1 v2 v3 v4 v5 u0 u1 u2 u3 u4 u5 w) (hQ:∀ c w,Same RK11 base c→Below w0.heap.size w0 w→c.eval (.tmp 87)=.bool false→Q .normal c w):(Code.region 11 RK11 true).wp Tryz.prog Q base w0:=by
 refine told_rule (B:=BaseK11 G H bl off kl kc bl2 off2 kl2 kc2 j v0 v1 v2 v3 v4 v5 u0 u1 u2 u3 u4 u5) (T:=WorldLKB G H bl off kl kc bl2 off2 kl2 kc2 j v0 v1 v2 v3 v4 v5 u0 u1 u2 u3 u4 u5) (n:=12) (k:=11) LK11 AK11 (VLKB G H bl off kl kc bl2 off2 kl2 kc2 j v0 v1 v2 v3 v4 v5 u0 u1 u2 u3 u4 u5) hLK11 rfl (by kernel_rfl) (by kernel_rfl) (by kernel_rfl) (by rw [hsz];kernel_rfl) (fun c hS=>⟨(same_eval hS (by kernel_rfl)).trans hb.t2,(same_eval hS (by kernel_rfl)).trans hb.t3,(same_eval hS (by kernel_rfl)).trans hb.t6⟩) hW ?_ (by decide) rfl rfl hQ
 clear hsz hb hW hQ
 iterate 12 (refine below_succ ?_ (by
  intro c w hb hW hEq
  obtain ⟨t2,t3,t6⟩:=hb
  obtain ⟨g,lt,le,c0,c1,c2,c3,c4,c5,h,lt2,le2,d0,d1,d2,d3,d4,d5,k1⟩:=hW
  have ec:=evc c
  have ef:=evf c
  dsimp only [AK11,LK11,VLKB,nth,EqAt,look,OpGoal] at hEq ⊢
  first
  | exact ⟨by first | exact hEq.1 | exact hEq.2.1 | exact hEq.2.2.1 | exact hEq.2.2.2.1,.inr ⟨.inl rfl,rfl⟩⟩
  | exact ⟨by first | exact hEq.1 | exact hEq.2.1 | exact hEq.2.2.1 | exact hEq.2.2.2.1,.inr ⟨.inr rfl,rfl⟩⟩
  | ((try refine ⟨by first | exact hEq.1 | exact hEq.2.1 | exact hEq.2.2.1 | exact hEq.2.2.2.1,.inl ⟨rfl,?_⟩⟩);first | (refine od_static Tryz.call151 k1 ?_;simp only [List.map_toArray,List.map_cons,List.map_nil,hEq];done) | (refine .inl fun pos af=>?_;(clear k1;dsimp only [Sig.oper];generalize c.eval=ρ at *;go_simp;done)))))
 exact below_zero
attribute [local go_sem] Oper.semAt_some
def textsB  : List ByteArray→List ByteArray→Bool
 | [],_=>true
 | _::_,[]=>true
 | x::r,y::r'=>(x.toList==y.toList)&&textsB r r'
mutual
def alikeT  : Tree→Tree→Bool
 | .mk k x n s ks ts,.mk k' x' n' s' ks' ts'=>!(k != k')&&((x==x')&&(!(n != n')&&((s.toList==s'.toList)&&(!((ks.length:Int) != (ks'.length:Int))&&(!((ts.length:Int) != (ts'.length:Int))&&(textsB ks ks'&&alikeL ts ts'))))))
def alikeL  : List Tree→List Tree→Bool
 | [],_=>true
 | _::_,[]=>true
 | t::r,t'::r'=>alikeT t t'&&alikeL r r'
end
theorem textsB_at {ks ks':List ByteArray} {j:Nat} {x y:ByteArray} (h:ks[j]?=some x) (h':ks'[j]?=some y):textsB (ks.drop j) (ks'.drop j)=((x.toList==y.toList)&&textsB (ks.drop (j+1)) (ks'.drop (j+1))):=by
 obtain ⟨hj,hx⟩:=List.getElem?_eq_some_iff.1 h
 obtain ⟨hj',hx'⟩:=List.getElem?_eq_some_iff.1 h'
 rw [List.drop_eq_getElem_cons hj,hx,List.drop_eq_getElem_cons hj',hx',textsB]
theorem alikeL_at {ks ks':List Tree} {j:Nat} {x y:Tree} (h:ks[j]?=some x) (h':ks'[j]?=some y):alikeL (ks.drop j) (ks'.drop j)=(alikeT x y&&alikeL (ks.drop (j+1)) (ks'.drop (j+1))):=by
 obtain ⟨hj,hx⟩:=List.getElem?_eq_some_iff.1 h
 obtain ⟨hj',hx'⟩:=List.getElem?_eq_some_iff.1 h'
 rw [List.drop_eq_getElem_cons hj,hx,List.drop_eq_getElem_cons hj',hx',alikeL]
theorem alike_all  : ∀ (T:Tree) (B:Nat) (v v':Value) (T':Tree) (w:World),B≤w.heap.size→Lies B w v T→Lies B w v' T' →
  Calls Tryz.prog 151 #[v,v'] w fun e w'=>e=.returned (.bool (alikeT T T'))∧Below w.heap.size w w':=by
 refine Tree.ind ?_
 intro k x n s ks ts ih B v v' T' w hB hv hv'
 obtain ⟨k',x',n',s',ks',ts'⟩:=T'
 obtain ⟨res,hres⟩:∃ r,alikeT (.mk k x n s ks ts) (.mk k' x' n' s' ks' ts')=r:=⟨_,rfl⟩
 rw [hres]
 rw [alikeT] at hres
 have HR:=hidE hres
 simp only [Lies] at hv hv'
 obtain ⟨ka,kc,la,lc,rfl,⟨hs1,hs2,hs3,hs4,hs5⟩,hk,ht⟩:=hv
 obtain ⟨ka2,kc2,la2,lc2,rfl,⟨gs1,gs2,gs3,gs4,gs5⟩,hk',ht'⟩:=hv'
 unfold maxLen at hs1 hs3 hs5 gs3 gs5
 have HIH:=hidE ih
 have HKK:=hidE (And.intro hk hk')
 have HTT:=hidE (And.intro ht ht')
 obtain ⟨n1,hn1⟩:∃ n,ks.length=n:=⟨_,rfl⟩
 obtain ⟨n2,hn2⟩:∃ n,ks'.length=n:=⟨_,rfl⟩
 obtain ⟨m1,hm1⟩:∃ n,ts.length=n:=⟨_,rfl⟩
 obtain ⟨m2,hm2⟩:∃ n,ts'.length=n:=⟨_,rfl⟩
 have HN1:=hidE hn1
 have HN2:=hidE hn2
 have HM1:=hidE hm1
 have HM2:=hidE hm2
 rw [hn1,hn2,hm1,hm2] at HR
 rw [hn1] at hs2
 rw [hn2] at gs2
 rw [hm1] at hs4
 rw [hm2] at gs4
 rw [hn1,hn2,hm1,hm2]
 clear ih hk hk' ht ht' hres hn1 hn2 hm1 hm2
 obtain ⟨W1,hW1⟩:∃ W1,((w.alloc (.cells #[.int .i64 k,.bool x,.int .i64 n,.string s,.slice ka n1 kc,.slice la m1 lc] 60)).alloc (.cells #[.int .i64 k',.bool x',.int .i64 n',.string s',.slice ka2 n2 kc2,.slice la2 m2 lc2] 60))=W1:=⟨_,rfl⟩
 have HX:Hid (∀ W,Below W1.heap.size W1 W→Below w.heap.size w W∧(∀ i v,(#[.int .i64 k,.bool x,.int .i64 n,.string s,.slice ka n1 kc,.slice la m1 lc]:Array Value)[i]?=some v→W.cell? ⟨w.heap.size,i,none⟩=some v)∧(∀ i v,(#[.int .i64 k',.bool x',.int .i64 n',.string s',.slice ka2 n2 kc2,.slice la2 m2 lc2]:Array Value)[i]?=some v→W.cell? ⟨w.heap.size+1,i,none⟩=some v)):=fun W hb=>by
  rw [← hW1] at hb
  exact two_boxes hb
 have HZ:Hid (w.heap.size+1<W1.heap.size):=by
  show _<_
  rw [← hW1];simp
 have HB1:=hidE (HX.out W1 (Below.refl _ _)).1
 have HW1:=hidE hW1
 obtain ⟨_,g,h⟩:=HX.out W1 (Below.refl _ _)
 have q0:=g 0 _ rfl
 have q1:=g 1 _ rfl
 have q2:=g 2 _ rfl
 have q3:=g 3 _ rfl
 have q4:=g 4 _ rfl
 have q5:=g 5 _ rfl
 have w0:=h 0 _ rfl
 have w1:=h 1 _ rfl
 have w2:=h 2 _ rfl
 have w3:=h 3 _ rfl
 have w4:=h 4 _ rfl
 have w5:=h 5 _ rfl
 clear hW1 g h
 go_enter Tryz.func151,Tryz.ntmps151
 go_upto_region 1 with fail
 rw [HW1.out]
 clear HW1
 by_cases b1:(k != k')=true
 ·have z1:=b1
  have HF:Hid (res=false):=by
   show _=_
   rw [← HR.out,z1];rfl
  go_wp2_with fail
  go_ret
  exact ⟨by rw [HF.out];rfl,HB1.out⟩
 ·have z1:(k != k')=false:=by simpa using b1
  clear b1
  by_cases b2:¬ x=x'
  ·have z2:(x==x')=false:=by simpa using b2
   have HF:Hid (res=false):=by
    show _=_
    rw [← HR.out,z1,z2];rfl
   cases x<;>cases x'
   ·exact absurd rfl b2
   ·clear b2 z2
    go_wp2_with fail
    go_ret
    exact ⟨by rw [HF.out];rfl,HB1.out⟩
   ·clear b2 z2
    go_wp2_with fail
    go_ret
    exact ⟨by rw [HF.out];rfl,HB1.out⟩
   ·exact absurd rfl b2
  ·have z2:x=x':=by simpa using b2
   clear b2
   subst z2
   have HX2:Hid ((x==x)=true):=by
    show _=_
    simp
   by_cases b3:(n != n')=true
   ·have z3:=b3
    have HF:Hid (res=false):=by
     show _=_
     rw [← HR.out,z1,HX2.out,z3];rfl
    go_wp2_with fail
    go_ret
    exact ⟨by rw [HF.out];rfl,HB1.out⟩
   ·have z3:(n != n')=false:=by simpa using b3
    clear b3
    by_cases b4:(s.toList==s'.toList)=false
    ·have z4:=b4
     have HF:Hid (res=false):=by
      show _=_
      rw [← HR.out,z1,HX2.out,z3,z4];rfl
     go_wp2_with fail
     go_ret
     exact ⟨by rw [HF.out];rfl,HB1.out⟩
    ·have z4:(s.toList==s'.toList)=true:=by simpa using b4
     clear b4
     by_cases b5:((n1:Int) != (n2:Int))=true
     ·have z5:=b5
      have HF:Hid (res=false):=by
       show _=_
       rw [← HR.out,z1,HX2.out,z3,z4,z5];rfl
      go_wp2_with fail
      go_ret
      exact ⟨by rw [HF.out];rfl,HB1.out⟩
     ·have z5:((n1:Int) != (n2:Int))=false:=by simpa using b5
      clear b5
      by_cases b6:((m1:Int) != (m2:Int))=true
      ·have z6:=b6
       have HF:Hid (res=false):=by
        show _=_
        rw [← HR.out,z1,HX2.out,z3,z4,z5,z6];rfl
       go_wp2_with fail
       go_ret
       exact ⟨by rw [HF.out];rfl,HB1.out⟩
      ·have z6:((m1:Int) != (m2:Int))=false:=by simpa using b6
       clear b6
       have HR2:Hid ((textsB ks ks'&&alikeL ts ts')=res):=by
        show _=_
        rw [← HR.out,z1,HX2.out,z3,z4,z5,z6];rfl
       have HEQ:Hid (n1=n2∧m1=m2):=by
        have a:=z5
        have b:=z6
        simp at a b
        exact ⟨by omega,by omega⟩
       go_wp2_with fail
       clear HR z1 HX2 z3 z4 z5 z6
       obtain ⟨rfl,rfl⟩:=HEQ.out
       clear HEQ q0 q1 q2 q3 w0 w1 w2 w3
       go_loopw [5] (fun i wr=>∃ j:Nat,j≤n1∧i=.int .i64 j∧Below W1.heap.size W1 wr∧(textsB (ks.drop j) (ks'.drop j)&&alikeL ts ts')=res) (fun i _=>n1 - (intOf i).toNat)
       case atStart=>exact ⟨0,Nat.zero_le _,rfl,Below.refl _ _,HR2.out⟩
       case round =>
        clear q4 q5 w4 w5
        obtain ⟨j,hj,rfl,hbr,hrs⟩:=hrel
        have HBR:=hidE hbr
        have HRS:=hidE hrs
        have hwz:w.heap.size+1<wr.heap.size:=by
         have:=HZ.out
         have:=hbr.size
         omega
        obtain ⟨hbw,g,h⟩:=HX.out wr hbr
        have q4:=g 4 _ rfl
        have w4:=h 4 _ rfl
        have q5:=g 5 _ rfl
        have HBW:=hidE hbw
        clear hbr hrs g h hbw
        by_cases hlt:j<n1
        ·have hlt':(j:Int)<n1:=by omega
         obtain ⟨xk,hx⟩:∃ q,ks[j]?=some q:=⟨_,List.getElem?_eq_getElem (by have:=HN1.out;omega)⟩
         obtain ⟨yk,hy⟩:∃ q,ks'[j]?=some q:=⟨_,List.getElem?_eq_getElem (by have:=HN2.out;omega)⟩
         obtain ⟨bl,off,rfl,hbl,hc⟩:=(HKK.out.1.below (HBW.out.mono hB)).resolve_left (by intro e;rw [e] at hx;simp at hx)
         obtain ⟨bl2,off2,rfl,hbl2,hc2⟩:=(HKK.out.2.below (HBW.out.mono hB)).resolve_left (by intro e;rw [e] at hy;simp at hy)
         have cx:=(hc j (by have:=HN1.out;omega)).1
         have cy:=(hc2 j (by have:=HN2.out;omega)).1
         rw [List.getD_eq_getElem?_getD,hx] at cx
         rw [List.getD_eq_getElem?_getD,hy] at cy
         simp only [Option.getD_some] at cx cy
         have hbw:bl<wr.heap.size:=by omega
         have hbw2:bl2<wr.heap.size:=by omega
         have HE:Hid (res=(((xk.toList==yk.toList)&&textsB (ks.drop (j+1)) (ks'.drop (j+1)))&&alikeL ts ts')):=by
          show _=_
          rw [← HRS.out,textsB_at hx hy]
         have HC:Hid (∀ W,Below wr.heap.size wr W→W.cell? ⟨w.heap.size,4,none⟩=some (.slice (some ⟨bl,off,none⟩) n1 kc)∧W.cell? ⟨w.heap.size+1,4,none⟩=some (.slice (some ⟨bl2,off2,none⟩) n1 kc2)∧W.cell? ⟨bl,off+j,none⟩=some (.string xk)∧W.cell? ⟨bl2,off2+j,none⟩=some (.string yk)):=fun W hb =>
          ⟨(hb.cell (p:=⟨w.heap.size,4,none⟩) (by show w.heap.size<_;omega)).trans q4,(hb.cell (p:=⟨w.heap.size+1,4,none⟩) hwz).trans w4,(hb.cell (p:=⟨bl,off+j,none⟩) hbw).trans cx,(hb.cell (p:=⟨bl2,off2+j,none⟩) hbw2).trans cy⟩
         clear hx hy hc hc2
         go_upto_region 6 with fail
         clear cx cy q4 w4 q5
         show (Code.region 6 RK6 true).wp _ _ _ _
         obtain ⟨b,hb⟩:∃ b,(xk.toList==yk.toList)=b:=⟨_,rfl⟩
         cases b with
         | false =>
          have HA1:Hid ((!(xk.toList==yk.toList))=true):=by
           show _=_
           rw [hb];rfl
          have HA2:=hidE hb
          clear hb
          refine regionKA w.heap.size (w.heap.size+1) bl off n1 kc bl2 off2 n1 kc2 j xk yk _ _ _ rfl ⟨rfl,rfl,rfl⟩ ?_ ?_
          ·intro W hW
           exact ⟨(HC.out W hW).1,hlt,by omega,(HC.out W hW).2.2.1,(HC.out W hW).2.1,hlt,by omega,(HC.out W hW).2.2.2,HA1.out⟩
          intro c W3 hS hB3 e68
          rw [same_peek hS [58,59,60,61,62,63,64,65,66,67,68] (by kernel_rfl)]
          simp only [List.foldl_cons,List.foldl_nil,List.setIfInBounds_toArray,List.set_cons_succ,List.set_cons_zero,show peek c 68=_ from e68]
          clear e68 hS
          have HB3:=hidE (below_on HBR.out hB3)
          clear hB3
          have HF:Hid (res=false):=by
           show _=_
           rw [HE.out,HA2.out];rfl
          go_wp2_with fail
          go_ret
          exact ⟨by rw [HF.out];rfl,below_on HB1.out HB3.out⟩
         | true =>
          have HA1:Hid ((!(xk.toList==yk.toList))=false):=by
           show _=_
           rw [hb];rfl
          have HA2:=hidE hb
          clear hb
          refine regionKB w.heap.size (w.heap.size+1) bl off n1 kc bl2 off2 n1 kc2 j xk yk _ _ _ rfl ⟨rfl,rfl,rfl⟩ ?_ ?_
          ·intro W hW
           exact ⟨(HC.out W hW).1,hlt,by omega,(HC.out W hW).2.2.1,(HC.out W hW).2.1,hlt,by omega,(HC.out W hW).2.2.2,HA1.out⟩
          intro c W3 hS hB3 e68
          rw [same_peek hS [58,59,60,61,62,63,64,65,66,67,68] (by kernel_rfl)]
          simp only [List.foldl_cons,List.foldl_nil,List.setIfInBounds_toArray,List.set_cons_succ,List.set_cons_zero,show peek c 68=_ from e68]
          clear e68 hS
          have HB3:=hidE (below_on HBR.out hB3)
          clear hB3
          have HN2:Hid ((textsB (ks.drop (j+1)) (ks'.drop (j+1))&&alikeL ts ts')=res):=by
           show _=_
           rw [HE.out,HA2.out];rfl
          go_wp2_with fail
          go_roundw
          case rel=>exact ⟨j+1,by omega,by go_num,HB3.out,HN2.out⟩
          case measure=>simp [intOf];omega
        ·have HR3:Hid (alikeL ts ts'=res):=by
          show _=_
          rw [← HRS.out,List.drop_of_length_le (by have:=HN1.out;omega)];rfl
         have hlt':¬ (j:Int)<n1:=by omega
         have HBA:=HBR
         go_wp2_with fail
         clear hlt hlt' HRS hj HBR q4 w4 q5 hwz HBW
         go_loopw [6] (fun i wr=>∃ j:Nat,j≤m1∧i=.int .i64 j∧Below W1.heap.size W1 wr∧alikeL (ts.drop j) (ts'.drop j)=res) (fun i _=>m1 - (intOf i).toNat)
         case atStart=>exact ⟨0,Nat.zero_le _,rfl,HBA.out,HR3.out⟩
         case round =>
          clear HBA
          obtain ⟨j,hj,rfl,hbr,hrs⟩:=hrel
          have HBR:=hidE hbr
          have HRS:=hidE hrs
          have hwz:w.heap.size+1<wr.heap.size:=by
           have:=HZ.out
           have:=hbr.size
           omega
          obtain ⟨hbw,g,h⟩:=HX.out wr hbr
          have q5:=g 5 _ rfl
          have w5:=h 5 _ rfl
          have HBW:=hidE hbw
          clear hbr hrs g h hbw
          by_cases hlt:j<m1
          ·have hlt':(j:Int)<m1:=by omega
           obtain ⟨⟨p0,p1,p2,p3,p4,p5⟩,hx⟩:∃ t,ts[j]?=some t:=⟨_,List.getElem?_eq_getElem (by have:=HM1.out;omega)⟩
           obtain ⟨⟨r0,r1,r2,r3,r4,r5⟩,hy⟩:∃ t,ts'[j]?=some t:=⟨_,List.getElem?_eq_getElem (by have:=HM2.out;omega)⟩
           obtain ⟨bl,off,rfl,hbl,hkk⟩:=HTT.out.1.resolve_left (by intro e;rw [e] at hx;simp at hx)
           obtain ⟨bl2,off2,rfl,hbl2,hkk2⟩:=HTT.out.2.resolve_left (by intro e;rw [e] at hy;simp at hy)
           obtain ⟨ja,jc,jl,jd,⟨c0,c1,c2,c3,c4,c5⟩,hlx⟩:=(hkk.below (HBW.out.mono hB) hbl).cells hx
           obtain ⟨ja2,jc2,jl2,jd2,⟨d0,d1,d2,d3,d4,d5⟩,hly⟩:=(hkk2.below (HBW.out.mono hB) hbl2).cells hy
           have hbw:bl<wr.heap.size:=by omega
           have hbw2:bl2<wr.heap.size:=by omega
           have HK1:=hidE (fun W (hb:Below wr.heap.size wr W)=>HIH.out _ (List.mem_of_getElem? hx) B _ _ (.mk r0 r1 r2 r3 r4 r5) W (by have:=hb.size;omega) (hlx.below (hb.mono (by omega))) (hly.below (hb.mono (by omega))))
           obtain ⟨b,hb⟩:∃ b,alikeT (.mk p0 p1 p2 p3 p4 p5) (.mk r0 r1 r2 r3 r4 r5)=b:=⟨_,rfl⟩
           rw [hb] at HK1
           have HE:Hid (res=(b&&alikeL (ts.drop (j+1)) (ts'.drop (j+1)))):=by
            show _=_
            rw [← HRS.out,alikeL_at hx hy,hb]
           have HC:Hid (∀ W,Below wr.heap.size wr W→W.cell? ⟨w.heap.size,5,none⟩=some (.slice (some ⟨bl,off,none⟩) m1 lc)∧W.cell? ⟨w.heap.size+1,5,none⟩=some (.slice (some ⟨bl2,off2,none⟩) m1 lc2)):=fun W hb =>
            ⟨(hb.cell (p:=⟨w.heap.size,5,none⟩) (by show w.heap.size<_;omega)).trans q5,(hb.cell (p:=⟨w.heap.size+1,5,none⟩) hwz).trans w5⟩
           clear hx hy hkk hkk2 hlx hly hb
           go_upto_region 11 with fail
           clear q5 w5
           show (Code.region 11 RK11 true).wp _ _ _ _
           cases b with
           | false =>
            refine regionLKA w.heap.size (w.heap.size+1) bl off m1 lc bl2 off2 m1 lc2 j (.int .i64 p0) (.bool p1) (.int .i64 p2) (.string p3) (.slice ja p4.length jc) (.slice jl p5.length jd) (.int .i64 r0) (.bool r1) (.int .i64 r2) (.string r3) (.slice ja2 r4.length jc2) (.slice jl2 r5.length jd2) _ _ _ rfl ⟨rfl,rfl,rfl⟩ ?_ ?_
            ·intro W hW
             exact ⟨(HC.out W hW).1,hlt,by omega,(hW.cell (p:=⟨bl,off+j*6,none⟩) hbw).trans c0,(hW.cell (p:=⟨bl,off+j*6+1,none⟩) hbw).trans c1,(hW.cell (p:=⟨bl,off+j*6+2,none⟩) hbw).trans c2,(hW.cell (p:=⟨bl,off+j*6+3,none⟩) hbw).trans c3,(hW.cell (p:=⟨bl,off+j*6+4,none⟩) hbw).trans c4,(hW.cell (p:=⟨bl,off+j*6+5,none⟩) hbw).trans c5,(HC.out W hW).2,hlt,by omega,(hW.cell (p:=⟨bl2,off2+j*6,none⟩) hbw2).trans d0,(hW.cell (p:=⟨bl2,off2+j*6+1,none⟩) hbw2).trans d1,(hW.cell (p:=⟨bl2,off2+j*6+2,none⟩) hbw2).trans d2,(hW.cell (p:=⟨bl2,off2+j*6+3,none⟩) hbw2).trans d3,(hW.cell (p:=⟨bl2,off2+j*6+4,none⟩) hbw2).trans d4,(hW.cell (p:=⟨bl2,off2+j*6+5,none⟩) hbw2).trans d5,HK1.out W hW⟩
            intro c W3 hS hB3 e87
            rw [same_peek hS [76,77,78,79,80,81,82,83,84,85,86,87] (by kernel_rfl)]
            simp only [List.foldl_cons,List.foldl_nil,List.setIfInBounds_toArray,List.set_cons_succ,List.set_cons_zero,show peek c 87=_ from e87]
            clear e87 hS
            have HB3:=hidE (below_on HBR.out hB3)
            clear hB3
            have HF:Hid (res=false):=by
             show _=_
             rw [HE.out];rfl
            go_wp2_with fail
            go_ret
            exact ⟨by rw [HF.out];rfl,below_on HB1.out HB3.out⟩
           | true =>
            refine regionLKB w.heap.size (w.heap.size+1) bl off m1 lc bl2 off2 m1 lc2 j (.int .i64 p0) (.bool p1) (.int .i64 p2) (.string p3) (.slice ja p4.length jc) (.slice jl p5.length jd) (.int .i64 r0) (.bool r1) (.int .i64 r2) (.string r3) (.slice ja2 r4.length jc2) (.slice jl2 r5.length jd2) _ _ _ rfl ⟨rfl,rfl,rfl⟩ ?_ ?_
            ·intro W hW
             exact ⟨(HC.out W hW).1,hlt,by omega,(hW.cell (p:=⟨bl,off+j*6,none⟩) hbw).trans c0,(hW.cell (p:=⟨bl,off+j*6+1,none⟩) hbw).trans c1,(hW.cell (p:=⟨bl,off+j*6+2,none⟩) hbw).trans c2,(hW.cell (p:=⟨bl,off+j*6+3,none⟩) hbw).trans c3,(hW.cell (p:=⟨bl,off+j*6+4,none⟩) hbw).trans c4,(hW.cell (p:=⟨bl,off+j*6+5,none⟩) hbw).trans c5,(HC.out W hW).2,hlt,by omega,(hW.cell (p:=⟨bl2,off2+j*6,none⟩) hbw2).trans d0,(hW.cell (p:=⟨bl2,off2+j*6+1,none⟩) hbw2).trans d1,(hW.cell (p:=⟨bl2,off2+j*6+2,none⟩) hbw2).trans d2,(hW.cell (p:=⟨bl2,off2+j*6+3,none⟩) hbw2).trans d3,(hW.cell (p:=⟨bl2,off2+j*6+4,none⟩) hbw2).trans d4,(hW.cell (p:=⟨bl2,off2+j*6+5,none⟩) hbw2).trans d5,HK1.out W hW⟩
            intro c W3 hS hB3 e87
            rw [same_peek hS [76,77,78,79,80,81,82,83,84,85,86,87] (by kernel_rfl)]
            simp only [List.foldl_cons,List.foldl_nil,List.setIfInBounds_toArray,List.set_cons_succ,List.set_cons_zero,show peek c 87=_ from e87]
            clear e87 hS
            have HB3:=hidE (below_on HBR.out hB3)
            clear hB3
            have HN2:Hid (alikeL (ts.drop (j+1)) (ts'.drop (j+1))=res):=by
             show _=_
             rw [HE.out];rfl
            go_wp2_with fail
            go_roundw
            case rel=>exact ⟨j+1,by omega,by go_num,HB3.out,HN2.out⟩
            case measure=>simp [intOf];omega
          ·have HF:Hid (res=true):=by
            show _=_
            rw [← HRS.out,List.drop_of_length_le (by have:=HM1.out;omega)];rfl
           have hlt':¬ (j:Int)<m1:=by omega
           go_wp2_with fail
           go_ret
           exact ⟨by rw [HF.out];rfl,HBW.out⟩
end Go.Proofs.YteddjlbfbpecjaaGreatDoor
