/- The same graph: the document's word. -/
import Derived.Test.YteddjlbfbpecjaaGreatDoorJoin2
import Derived.Test.YteddjlbfbpecjaaGreatDoorJoin18
namespace Go.Proofs.YteddjlbfbpecjaaGreatDoor
open Go.RowKit Go.Shelf Go.WideShapes
set_option maxHeartbeats 8000000
set_option maxRecDepth 100000
set_option linter.all false
noncomputable def RGN  : Array Oper:=Jg Tryz.f15 6
def LGN  : List Sig:=[⟨44,.fieldAddr 25 (.tmp 2) 0,0,none⟩,⟨45,.load 22 (.tmp 44),22,none⟩,⟨46,.move (.tmp 5),3,none⟩,⟨47,.indexAddr 22 (.tmp 45) (.tmp 46),0,none⟩,⟨48,.load 47 (.tmp 47),47,none⟩,⟨49,.fieldAddr 25 (.tmp 3) 0,0,none⟩,⟨50,.load 22 (.tmp 49),22,none⟩,⟨51,.move (.tmp 5),3,none⟩,⟨52,.indexAddr 22 (.tmp 50) (.tmp 51),0,none⟩,⟨53,.load 47 (.tmp 52),47,none⟩,⟨54,.call { callee:=.value (.func 45),args:=#[.tmp 48,.tmp 53],argTypes:=#[47,47] },4,none⟩,⟨55,.unOp .not 4 (.tmp 54),4,none⟩]
theorem Jgo  : Jq RGN=LGN.map some:=by kernel_rfl
def AGN  : List (List Nat):=[[],[0],[],[1,2],[3],[],[5],[],[6,7],[8],[4,9],[10]]
structure Zpq (G H bl off kl kc bl2 off2 kl2 kc2 j:Nat) (v0 v1 v2 u0 u1 u2:Value) (c:Act):Prop where
 t2:c.eval (.tmp 2)=.pointer (some ⟨G,0,none⟩)
 t3:c.eval (.tmp 3)=.pointer (some ⟨H,0,none⟩)
 t5:c.eval (.tmp 5)=.int .i64 (j:Int)
def Jgp (G H bl off kl kc bl2 off2 kl2 kc2 j:Nat) (v0 v1 v2 u0 u1 u2:Value):List Value:=[.pointer (some ⟨G,0,none⟩),.slice (some ⟨bl,off,none⟩) kl kc,.int .i64 (j:Int),.pointer (some ⟨bl,off+j*3,none⟩),.agg #[v0,v1,v2],.pointer (some ⟨H,0,none⟩),.slice (some ⟨bl2,off2,none⟩) kl2 kc2,.int .i64 (j:Int),.pointer (some ⟨bl2,off2+j*3,none⟩),.agg #[u0,u1,u2],.bool false,.bool true]
structure Zpr (G H bl off kl kc bl2 off2 kl2 kc2 j:Nat) (v0 v1 v2 u0 u1 u2:Value) (w:World):Prop where
 g:w.cell? ⟨G,0,none⟩=some (.slice (some ⟨bl,off,none⟩) kl kc)
 lt:j<kl
 le:kl≤9223372036854775807
 c0:w.cell? ⟨bl,off+j*3,none⟩=some (v0)
 c1:w.cell? ⟨bl,off+j*3+1,none⟩=some (v1)
 c2:w.cell? ⟨bl,off+j*3+2,none⟩=some (v2)
 h:w.cell? ⟨H,0,none⟩=some (.slice (some ⟨bl2,off2,none⟩) kl2 kc2)
 lt2:j<kl2
 le2:kl2≤9223372036854775807
 d0:w.cell? ⟨bl2,off2+j*3,none⟩=some (u0)
 d1:w.cell? ⟨bl2,off2+j*3+1,none⟩=some (u1)
 d2:w.cell? ⟨bl2,off2+j*3+2,none⟩=some (u2)
 k1:Calls Tryz.prog 45 #[.agg #[v0,v1,v2],.agg #[u0,u1,u2]] w fun e w'=>e=.returned (.bool false)∧Below w.heap.size w w'
theorem Zuy (G H bl off kl kc bl2 off2 kl2 kc2 j:Nat) (v0 v1 v2 u0 u1 u2:Value) (Q:Exit→Act→World→Prop) (base:Act) (w0:World) (hsz:base.tmps.size=75) (hb:Zpq G H bl off kl kc bl2 off2 kl2 kc2 j v0 v1 v2 u0 u1 u2 base)
  (hW:∀ w,Below w0.heap.size w0 w→Zpr G H bl off kl kc bl2 off2 kl2 kc2 j v0 v1 v2 u0 u1 u2 w) (hQ:∀ c w,Zae RGN base c→Below w0.heap.size w0 w→c.eval (.tmp 55)=.bool true→Q .normal c w):(Code.region 6 RGN true).wp Tryz.prog Q base w0:=by
 refine Zr (B:=Zpq G H bl off kl kc bl2 off2 kl2 kc2 j v0 v1 v2 u0 u1 u2) (T:=Zpr G H bl off kl kc bl2 off2 kl2 kc2 j v0 v1 v2 u0 u1 u2) (n:=12) (k:=11) LGN AGN (Jgp G H bl off kl kc bl2 off2 kl2 kc2 j v0 v1 v2 u0 u1 u2) Jgo rfl (by kernel_rfl) (by kernel_rfl) (by kernel_rfl) (by rw [hsz];kernel_rfl) (fun c hS=>⟨(Zc hS (by kernel_rfl)).trans hb.t2,(Zc hS (by kernel_rfl)).trans hb.t3,(Zc hS (by kernel_rfl)).trans hb.t5⟩) hW ?_ (by decide) rfl rfl hQ
 clear hsz hb hW hQ
 iterate 12 (refine Zd ?_ (by
  intro c w hb hW hEq
  obtain ⟨t2,t3,t5⟩:=hb
  obtain ⟨g,lt,le,c0,c1,c2,h,lt2,le2,d0,d1,d2,k1⟩:=hW
  have ec:=evc c
  have ef:=evf c
  dsimp only [AGN,LGN,Jgp,nth,Zcm,Zbd,Jl] at hEq ⊢
  first
  | exact ⟨by first | exact hEq.1 | exact hEq.2.1 | exact hEq.2.2.1 | exact hEq.2.2.2.1,.inr ⟨by first | exact .inl rfl | exact .inr rfl,rfl⟩⟩
  | ((try refine ⟨by first | exact hEq.1 | exact hEq.2.1 | exact hEq.2.2.1 | exact hEq.2.2.2.1,.inl ⟨rfl,?_⟩⟩);first | (refine Zm Tryz.call45 k1 ?_;simp only [List.map_toArray,List.map_cons,List.map_nil,hEq];done) | (refine .inl fun pos af=>?_;(clear k1;dsimp only [Sig.oper];generalize c.eval=ρ at *;go_simp;done)))))
 exact Zj
def Jgq (G H bl off kl kc bl2 off2 kl2 kc2 j:Nat) (v0 v1 v2 u0 u1 u2:Value):List Value:=[.pointer (some ⟨G,0,none⟩),.slice (some ⟨bl,off,none⟩) kl kc,.int .i64 (j:Int),.pointer (some ⟨bl,off+j*3,none⟩),.agg #[v0,v1,v2],.pointer (some ⟨H,0,none⟩),.slice (some ⟨bl2,off2,none⟩) kl2 kc2,.int .i64 (j:Int),.pointer (some ⟨bl2,off2+j*3,none⟩),.agg #[u0,u1,u2],.bool true,.bool false]
structure Zps (G H bl off kl kc bl2 off2 kl2 kc2 j:Nat) (v0 v1 v2 u0 u1 u2:Value) (w:World):Prop where
 g:w.cell? ⟨G,0,none⟩=some (.slice (some ⟨bl,off,none⟩) kl kc)
 lt:j<kl
 le:kl≤9223372036854775807
 c0:w.cell? ⟨bl,off+j*3,none⟩=some (v0)
 c1:w.cell? ⟨bl,off+j*3+1,none⟩=some (v1)
 c2:w.cell? ⟨bl,off+j*3+2,none⟩=some (v2)
 h:w.cell? ⟨H,0,none⟩=some (.slice (some ⟨bl2,off2,none⟩) kl2 kc2)
 lt2:j<kl2
 le2:kl2≤9223372036854775807
 d0:w.cell? ⟨bl2,off2+j*3,none⟩=some (u0)
 d1:w.cell? ⟨bl2,off2+j*3+1,none⟩=some (u1)
 d2:w.cell? ⟨bl2,off2+j*3+2,none⟩=some (u2)
 k1:Calls Tryz.prog 45 #[.agg #[v0,v1,v2],.agg #[u0,u1,u2]] w fun e w'=>e=.returned (.bool true)∧Below w.heap.size w w'
theorem Zuz (G H bl off kl kc bl2 off2 kl2 kc2 j:Nat) (v0 v1 v2 u0 u1 u2:Value) (Q:Exit→Act→World→Prop) (base:Act) (w0:World) (hsz:base.tmps.size=75) (hb:Zpq G H bl off kl kc bl2 off2 kl2 kc2 j v0 v1 v2 u0 u1 u2 base)
  (hW:∀ w,Below w0.heap.size w0 w→Zps G H bl off kl kc bl2 off2 kl2 kc2 j v0 v1 v2 u0 u1 u2 w) (hQ:∀ c w,Zae RGN base c→Below w0.heap.size w0 w→c.eval (.tmp 55)=.bool false→Q .normal c w):(Code.region 6 RGN true).wp Tryz.prog Q base w0:=by
 refine Zr (B:=Zpq G H bl off kl kc bl2 off2 kl2 kc2 j v0 v1 v2 u0 u1 u2) (T:=Zps G H bl off kl kc bl2 off2 kl2 kc2 j v0 v1 v2 u0 u1 u2) (n:=12) (k:=11) LGN AGN (Jgq G H bl off kl kc bl2 off2 kl2 kc2 j v0 v1 v2 u0 u1 u2) Jgo rfl (by kernel_rfl) (by kernel_rfl) (by kernel_rfl) (by rw [hsz];kernel_rfl) (fun c hS=>⟨(Zc hS (by kernel_rfl)).trans hb.t2,(Zc hS (by kernel_rfl)).trans hb.t3,(Zc hS (by kernel_rfl)).trans hb.t5⟩) hW ?_ (by decide) rfl rfl hQ
 clear hsz hb hW hQ
 iterate 12 (refine Zd ?_ (by
  intro c w hb hW hEq
  obtain ⟨t2,t3,t5⟩:=hb
  obtain ⟨g,lt,le,c0,c1,c2,h,lt2,le2,d0,d1,d2,k1⟩:=hW
  have ec:=evc c
  have ef:=evf c
  dsimp only [AGN,LGN,Jgq,nth,Zcm,Zbd,Jl] at hEq ⊢
  first
  | exact ⟨by first | exact hEq.1 | exact hEq.2.1 | exact hEq.2.2.1 | exact hEq.2.2.2.1,.inr ⟨by first | exact .inl rfl | exact .inr rfl,rfl⟩⟩
  | ((try refine ⟨by first | exact hEq.1 | exact hEq.2.1 | exact hEq.2.2.1 | exact hEq.2.2.2.1,.inl ⟨rfl,?_⟩⟩);first | (refine Zm Tryz.call45 k1 ?_;simp only [List.map_toArray,List.map_cons,List.map_nil,hEq];done) | (refine .inl fun pos af=>?_;(clear k1;dsimp only [Sig.oper];generalize c.eval=ρ at *;go_simp;done)))))
 exact Zj
noncomputable def RGR  : Array Oper:=Jg Tryz.f15 11
def LGR  : List Sig:=[⟨63,.fieldAddr 25 (.tmp 2) 1,0,none⟩,⟨64,.load 23 (.tmp 63),23,none⟩,⟨65,.move (.tmp 6),3,none⟩,⟨66,.indexAddr 23 (.tmp 64) (.tmp 65),0,none⟩,⟨67,.load 49 (.tmp 66),49,none⟩,⟨68,.fieldAddr 25 (.tmp 3) 1,0,none⟩,⟨69,.load 23 (.tmp 68),23,none⟩,⟨70,.move (.tmp 6),3,none⟩,⟨71,.indexAddr 23 (.tmp 69) (.tmp 70),0,none⟩,⟨72,.load 49 (.tmp 71),49,none⟩,⟨73,.call { callee:=.value (.func 46),args:=#[.tmp 67,.tmp 72],argTypes:=#[49,49] },4,none⟩,⟨74,.unOp .not 4 (.tmp 73),4,none⟩]
theorem Jgr  : Jq RGR=LGR.map some:=by kernel_rfl
def AGR  : List (List Nat):=[[],[0],[],[1,2],[3],[],[5],[],[6,7],[8],[4,9],[10]]
structure Zpt (G H bl off kl kc bl2 off2 kl2 kc2 j:Nat) (v0 v1 v2 v3 v4 u0 u1 u2 u3 u4:Value) (c:Act):Prop where
 t2:c.eval (.tmp 2)=.pointer (some ⟨G,0,none⟩)
 t3:c.eval (.tmp 3)=.pointer (some ⟨H,0,none⟩)
 t6:c.eval (.tmp 6)=.int .i64 (j:Int)
def Jgs (G H bl off kl kc bl2 off2 kl2 kc2 j:Nat) (v0 v1 v2 v3 v4 u0 u1 u2 u3 u4:Value):List Value:=[.pointer (some ⟨G,1,none⟩),.slice (some ⟨bl,off,none⟩) kl kc,.int .i64 (j:Int),.pointer (some ⟨bl,off+j*5,none⟩),.agg #[v0,v1,v2,v3,v4],.pointer (some ⟨H,1,none⟩),.slice (some ⟨bl2,off2,none⟩) kl2 kc2,.int .i64 (j:Int),.pointer (some ⟨bl2,off2+j*5,none⟩),.agg #[u0,u1,u2,u3,u4],.bool false,.bool true]
structure Zpu (G H bl off kl kc bl2 off2 kl2 kc2 j:Nat) (v0 v1 v2 v3 v4 u0 u1 u2 u3 u4:Value) (w:World):Prop where
 g:w.cell? ⟨G,1,none⟩=some (.slice (some ⟨bl,off,none⟩) kl kc)
 lt:j<kl
 le:kl≤9223372036854775807
 c0:w.cell? ⟨bl,off+j*5,none⟩=some (v0)
 c1:w.cell? ⟨bl,off+j*5+1,none⟩=some (v1)
 c2:w.cell? ⟨bl,off+j*5+2,none⟩=some (v2)
 c3:w.cell? ⟨bl,off+j*5+3,none⟩=some (v3)
 c4:w.cell? ⟨bl,off+j*5+4,none⟩=some (v4)
 h:w.cell? ⟨H,1,none⟩=some (.slice (some ⟨bl2,off2,none⟩) kl2 kc2)
 lt2:j<kl2
 le2:kl2≤9223372036854775807
 d0:w.cell? ⟨bl2,off2+j*5,none⟩=some (u0)
 d1:w.cell? ⟨bl2,off2+j*5+1,none⟩=some (u1)
 d2:w.cell? ⟨bl2,off2+j*5+2,none⟩=some (u2)
 d3:w.cell? ⟨bl2,off2+j*5+3,none⟩=some (u3)
 d4:w.cell? ⟨bl2,off2+j*5+4,none⟩=some (u4)
 k1:Calls Tryz.prog 46 #[.agg #[v0,v1,v2,v3,v4],.agg #[u0,u1,u2,u3,u4]] w fun e w'=>e=.returned (.bool false)∧Below w.heap.size w w'
theorem Zu0 (G H bl off kl kc bl2 off2 kl2 kc2 j:Nat) (v0 v1 v2 v3 v4 u0 u1 u2 u3 u4:Value) (Q:Exit→Act→World→Prop) (base:Act) (w0:World) (hsz:base.tmps.size=75) (hb:Zpt G H bl off kl kc bl2 off2 kl2 kc2 j v0 v1 v2 v3 v4 u0 u1 u2 u3 u4 base)
  (hW:∀ w,Below w0.heap.size w0 w→Zpu G H bl off kl kc bl2 off2 kl2 kc2 j v0 v1 v2 v3 v4 u0 u1 u2 u3 u4 w) (hQ:∀ c w,Zae RGR base c→Below w0.heap.size w0 w→c.eval (.tmp 74)=.bool true→Q .normal c w):(Code.region 11 RGR true).wp Tryz.prog Q base w0:=by
 refine Zr (B:=Zpt G H bl off kl kc bl2 off2 kl2 kc2 j v0 v1 v2 v3 v4 u0 u1 u2 u3 u4) (T:=Zpu G H bl off kl kc bl2 off2 kl2 kc2 j v0 v1 v2 v3 v4 u0 u1 u2 u3 u4) (n:=12) (k:=11) LGR AGR (Jgs G H bl off kl kc bl2 off2 kl2 kc2 j v0 v1 v2 v3 v4 u0 u1 u2 u3 u4) Jgr rfl (by kernel_rfl) (by kernel_rfl) (by kernel_rfl) (by rw [hsz];kernel_rfl) (fun c hS=>⟨(Zc hS (by kernel_rfl)).trans hb.t2,(Zc hS (by kernel_rfl)).trans hb.t3,(Zc hS (by kernel_rfl)).trans hb.t6⟩) hW ?_ (by decide) rfl rfl hQ
 clear hsz hb hW hQ
 iterate 12 (refine Zd ?_ (by
  intro c w hb hW hEq
  obtain ⟨t2,t3,t6⟩:=hb
  obtain ⟨g,lt,le,c0,c1,c2,c3,c4,h,lt2,le2,d0,d1,d2,d3,d4,k1⟩:=hW
  have ec:=evc c
  have ef:=evf c
  dsimp only [AGR,LGR,Jgs,nth,Zcm,Zbd,Jl] at hEq ⊢
  first
  | exact ⟨by first | exact hEq.1 | exact hEq.2.1 | exact hEq.2.2.1 | exact hEq.2.2.2.1,.inr ⟨by first | exact .inl rfl | exact .inr rfl,rfl⟩⟩
  | ((try refine ⟨by first | exact hEq.1 | exact hEq.2.1 | exact hEq.2.2.1 | exact hEq.2.2.2.1,.inl ⟨rfl,?_⟩⟩);first | (refine Zm Tryz.call46 k1 ?_;simp only [List.map_toArray,List.map_cons,List.map_nil,hEq];done) | (refine .inl fun pos af=>?_;(clear k1;dsimp only [Sig.oper];generalize c.eval=ρ at *;go_simp;done)))))
 exact Zj
def Jgt (G H bl off kl kc bl2 off2 kl2 kc2 j:Nat) (v0 v1 v2 v3 v4 u0 u1 u2 u3 u4:Value):List Value:=[.pointer (some ⟨G,1,none⟩),.slice (some ⟨bl,off,none⟩) kl kc,.int .i64 (j:Int),.pointer (some ⟨bl,off+j*5,none⟩),.agg #[v0,v1,v2,v3,v4],.pointer (some ⟨H,1,none⟩),.slice (some ⟨bl2,off2,none⟩) kl2 kc2,.int .i64 (j:Int),.pointer (some ⟨bl2,off2+j*5,none⟩),.agg #[u0,u1,u2,u3,u4],.bool true,.bool false]
structure Zpv (G H bl off kl kc bl2 off2 kl2 kc2 j:Nat) (v0 v1 v2 v3 v4 u0 u1 u2 u3 u4:Value) (w:World):Prop where
 g:w.cell? ⟨G,1,none⟩=some (.slice (some ⟨bl,off,none⟩) kl kc)
 lt:j<kl
 le:kl≤9223372036854775807
 c0:w.cell? ⟨bl,off+j*5,none⟩=some (v0)
 c1:w.cell? ⟨bl,off+j*5+1,none⟩=some (v1)
 c2:w.cell? ⟨bl,off+j*5+2,none⟩=some (v2)
 c3:w.cell? ⟨bl,off+j*5+3,none⟩=some (v3)
 c4:w.cell? ⟨bl,off+j*5+4,none⟩=some (v4)
 h:w.cell? ⟨H,1,none⟩=some (.slice (some ⟨bl2,off2,none⟩) kl2 kc2)
 lt2:j<kl2
 le2:kl2≤9223372036854775807
 d0:w.cell? ⟨bl2,off2+j*5,none⟩=some (u0)
 d1:w.cell? ⟨bl2,off2+j*5+1,none⟩=some (u1)
 d2:w.cell? ⟨bl2,off2+j*5+2,none⟩=some (u2)
 d3:w.cell? ⟨bl2,off2+j*5+3,none⟩=some (u3)
 d4:w.cell? ⟨bl2,off2+j*5+4,none⟩=some (u4)
 k1:Calls Tryz.prog 46 #[.agg #[v0,v1,v2,v3,v4],.agg #[u0,u1,u2,u3,u4]] w fun e w'=>e=.returned (.bool true)∧Below w.heap.size w w'
theorem Zu1 (G H bl off kl kc bl2 off2 kl2 kc2 j:Nat) (v0 v1 v2 v3 v4 u0 u1 u2 u3 u4:Value) (Q:Exit→Act→World→Prop) (base:Act) (w0:World) (hsz:base.tmps.size=75) (hb:Zpt G H bl off kl kc bl2 off2 kl2 kc2 j v0 v1 v2 v3 v4 u0 u1 u2 u3 u4 base)
  (hW:∀ w,Below w0.heap.size w0 w→Zpv G H bl off kl kc bl2 off2 kl2 kc2 j v0 v1 v2 v3 v4 u0 u1 u2 u3 u4 w) (hQ:∀ c w,Zae RGR base c→Below w0.heap.size w0 w→c.eval (.tmp 74)=.bool false→Q .normal c w):(Code.region 11 RGR true).wp Tryz.prog Q base w0:=by
 refine Zr (B:=Zpt G H bl off kl kc bl2 off2 kl2 kc2 j v0 v1 v2 v3 v4 u0 u1 u2 u3 u4) (T:=Zpv G H bl off kl kc bl2 off2 kl2 kc2 j v0 v1 v2 v3 v4 u0 u1 u2 u3 u4) (n:=12) (k:=11) LGR AGR (Jgt G H bl off kl kc bl2 off2 kl2 kc2 j v0 v1 v2 v3 v4 u0 u1 u2 u3 u4) Jgr rfl (by kernel_rfl) (by kernel_rfl) (by kernel_rfl) (by rw [hsz];kernel_rfl) (fun c hS=>⟨(Zc hS (by kernel_rfl)).trans hb.t2,(Zc hS (by kernel_rfl)).trans hb.t3,(Zc hS (by kernel_rfl)).trans hb.t6⟩) hW ?_ (by decide) rfl rfl hQ
 clear hsz hb hW hQ
 iterate 12 (refine Zd ?_ (by
  intro c w hb hW hEq
  obtain ⟨t2,t3,t6⟩:=hb
  obtain ⟨g,lt,le,c0,c1,c2,c3,c4,h,lt2,le2,d0,d1,d2,d3,d4,k1⟩:=hW
  have ec:=evc c
  have ef:=evf c
  dsimp only [AGR,LGR,Jgt,nth,Zcm,Zbd,Jl] at hEq ⊢
  first
  | exact ⟨by first | exact hEq.1 | exact hEq.2.1 | exact hEq.2.2.1 | exact hEq.2.2.2.1,.inr ⟨by first | exact .inl rfl | exact .inr rfl,rfl⟩⟩
  | ((try refine ⟨by first | exact hEq.1 | exact hEq.2.1 | exact hEq.2.2.1 | exact hEq.2.2.2.1,.inl ⟨rfl,?_⟩⟩);first | (refine Zm Tryz.call46 k1 ?_;simp only [List.map_toArray,List.map_cons,List.map_nil,hEq];done) | (refine .inl fun pos af=>?_;(clear k1;dsimp only [Sig.oper];generalize c.eval=ρ at *;go_simp;done)))))
 exact Zj
attribute [local go_sem] Oper.semAt_some
def Zau  : List Zp→List Zp→Bool
 | [],_=>true
 | _::_,[]=>true
 | p::r,q::r'=>Zco p q&&Zau r r'
def Zad  : List Jj→List Jj→Bool
 | [],_=>true
 | _::_,[]=>true
 | p::r,q::r'=>Zdk p q&&Zad r r'
def Zdf (a b:Zy):Bool:=!(a.nn != b.nn)&&(!(a.nr != b.nr)&&(!((a.nodes.length:Int) != (b.nodes.length:Int))&&(!((a.rels.length:Int) != (b.rels.length:Int))&&(Zau a.nodes b.nodes&&Zad a.rels b.rels))))
theorem Zkz {ks ks':List Zp} {j:Nat} {x y:Zp} (h:ks[j]?=some x) (h':ks'[j]?=some y):Zau (ks.drop j) (ks'.drop j)=(Zco x y&&Zau (ks.drop (j+1)) (ks'.drop (j+1))):=by
 obtain ⟨hj,hx⟩:=List.getElem?_eq_some_iff.1 h
 obtain ⟨hj',hx'⟩:=List.getElem?_eq_some_iff.1 h'
 rw [List.drop_eq_getElem_cons hj,hx,List.drop_eq_getElem_cons hj',hx',Zau]
theorem Zmk {ks ks':List Jj} {j:Nat} {x y:Jj} (h:ks[j]?=some x) (h':ks'[j]?=some y):Zad (ks.drop j) (ks'.drop j)=(Zdk x y&&Zad (ks.drop (j+1)) (ks'.drop (j+1))):=by
 obtain ⟨hj,hx⟩:=List.getElem?_eq_some_iff.1 h
 obtain ⟨hj',hx'⟩:=List.getElem?_eq_some_iff.1 h'
 rw [List.drop_eq_getElem_cons hj,hx,List.drop_eq_getElem_cons hj',hx',Zad]
theorem Zml (a b:Zy) (B:Nat) (v v':Value) (w:World) (hB:B≤w.heap.size) (hv:Zq B w v a) (hv':Zq B w v' b):Calls Tryz.prog 15 #[v,v'] w fun e w'=>e=.returned (.bool (Zdf a b))∧Below w.heap.size w w':=by
 obtain ⟨res,hres⟩:∃ r,Zdf a b=r:=⟨_,rfl⟩
 rw [hres]
 unfold Zdf at hres
 obtain ⟨na,nc,ra,rc,rfl,hn,hr⟩:=hv
 obtain ⟨na2,nc2,ra2,rc2,rfl,hn',hr'⟩:=hv'
 obtain ⟨ns,rs,nn,nr⟩:=a
 obtain ⟨ns',rs',nn',nr'⟩:=b
 simp only at hn hr hn' hr' hres ⊢
 obtain ⟨a',c',e1,h1,h2,hp3⟩:=hn
 obtain ⟨rfl,rfl⟩:na=a'∧nc=c':=by injection e1 with e1 _ e2;exact ⟨e1,e2⟩
 clear e1
 obtain ⟨a',c',e1,r1,r2,hq3⟩:=hr
 obtain ⟨rfl,rfl⟩:ra=a'∧rc=c':=by injection e1 with e1 _ e2;exact ⟨e1,e2⟩
 clear e1
 obtain ⟨a',c',e1,g1,g2,hp4⟩:=hn'
 obtain ⟨rfl,rfl⟩:na2=a'∧nc2=c':=by injection e1 with e1 _ e2;exact ⟨e1,e2⟩
 clear e1
 obtain ⟨a',c',e1,s1,s2,hq4⟩:=hr'
 obtain ⟨rfl,rfl⟩:ra2=a'∧rc2=c':=by injection e1 with e1 _ e2;exact ⟨e1,e2⟩
 clear e1
 have HKK:=Zb (And.intro hp3 hp4)
 have HTT:=Zb (And.intro hq3 hq4)
 obtain ⟨n1,hn1⟩:∃ n,ns.length=n:=⟨_,rfl⟩
 obtain ⟨n2,hn2⟩:∃ n,ns'.length=n:=⟨_,rfl⟩
 obtain ⟨m1,hm1⟩:∃ n,rs.length=n:=⟨_,rfl⟩
 obtain ⟨m2,hm2⟩:∃ n,rs'.length=n:=⟨_,rfl⟩
 have HN1:=Zb hn1
 have HN2:=Zb hn2
 have HM1:=Zb hm1
 have HM2:=Zb hm2
 rw [hn1,hn2,hm1,hm2] at hres
 have HR:=Zb hres
 rw [hn1] at h1
 rw [hn2] at g1
 rw [hm1] at r1
 rw [hm2] at s1
 rw [hn1,hn2,hm1,hm2]
 clear hp3 hp4 hq3 hq4 hres hn1 hn2 hm1 hm2
 obtain ⟨W1,hW1⟩:∃ W1,((w.alloc (.cells #[.slice na n1 nc,.slice ra m1 rc,.int .i64 nn,.int .i64 nr] 25)).alloc (.cells #[.slice na2 n2 nc2,.slice ra2 m2 rc2,.int .i64 nn',.int .i64 nr'] 25))=W1:=⟨_,rfl⟩
 have HX:Hid (∀ W,Below W1.heap.size W1 W→Below w.heap.size w W∧(∀ i v,(#[.slice na n1 nc,.slice ra m1 rc,.int .i64 nn,.int .i64 nr]:Array Value)[i]?=some v→W.cell? ⟨w.heap.size,i,none⟩=some v)∧(∀ i v,(#[.slice na2 n2 nc2,.slice ra2 m2 rc2,.int .i64 nn',.int .i64 nr']:Array Value)[i]?=some v→W.cell? ⟨w.heap.size+1,i,none⟩=some v)):=fun W hb=>by
  rw [← hW1] at hb
  exact Zhm hb
 have HZ:Hid (w.heap.size+1<W1.heap.size):=by
  show _<_
  rw [← hW1];simp
 have HB1:=Zb (HX.out W1 (Below.refl _ _)).1
 have HW1:=Zb hW1
 obtain ⟨_,g,h⟩:=HX.out W1 (Below.refl _ _)
 have q0:=g 0 _ rfl
 have w0:=h 0 _ rfl
 have q1:=g 1 _ rfl
 have w1:=h 1 _ rfl
 have q2:=g 2 _ rfl
 have w2:=h 2 _ rfl
 have q3:=g 3 _ rfl
 have w3:=h 3 _ rfl
 clear hW1 g h
 go_enter Tryz.func15,Tryz.ntmps15
 go_upto_region 1 with fail
 rw [HW1.out]
 clear HW1
 by_cases b0:(nn != nn')=true
 ·have z1:=b0
  have HF:Hid (res=false):=by
   show _=_
   rw [← HR.out,z1];rfl
  go_wp2_with fail
  go_ret
  exact ⟨by rw [HF.out];rfl,HB1.out⟩
 ·have z1:(nn != nn')=false:=by simpa using b0
  clear b0
  by_cases b1:(nr != nr')=true
  ·have z2:=b1
   have HF:Hid (res=false):=by
    show _=_
    rw [← HR.out,z1,z2];rfl
   go_wp2_with fail
   go_ret
   exact ⟨by rw [HF.out];rfl,HB1.out⟩
  ·have z2:(nr != nr')=false:=by simpa using b1
   clear b1
   by_cases b2:((n1:Int) != (n2:Int))=true
   ·have z3:=b2
    have HF:Hid (res=false):=by
     show _=_
     rw [← HR.out,z1,z2,z3];rfl
    go_wp2_with fail
    go_ret
    exact ⟨by rw [HF.out];rfl,HB1.out⟩
   ·have z3:((n1:Int) != (n2:Int))=false:=by simpa using b2
    clear b2
    by_cases b3:((m1:Int) != (m2:Int))=true
    ·have z4:=b3
     have HF:Hid (res=false):=by
      show _=_
      rw [← HR.out,z1,z2,z3,z4];rfl
     go_wp2_with fail
     go_ret
     exact ⟨by rw [HF.out];rfl,HB1.out⟩
    ·have z4:((m1:Int) != (m2:Int))=false:=by simpa using b3
     clear b3
     have HR2:Hid ((Zau ns ns'&&Zad rs rs')=res):=by
      show _=_
      rw [← HR.out,z1,z2,z3,z4];rfl
     have HEQ:Hid (n1=n2∧m1=m2):=by
      have a:=z3
      have b:=z4
      simp at a b
      exact ⟨by omega,by omega⟩
     go_wp2_with fail
     clear HR z1 z2 z3 z4
     obtain ⟨rfl,rfl⟩:=HEQ.out
     clear HEQ q0 q1 q2 q3 w0 w1 w2 w3
     go_loopw [5] (fun i wr=>∃ j:Nat,j≤n1∧i=.int .i64 j∧Below W1.heap.size W1 wr∧(Zau (ns.drop j) (ns'.drop j)&&Zad rs rs')=res) (fun i _=>n1 - (intOf i).toNat)
     case atStart=>exact ⟨0,Nat.zero_le _,rfl,Below.refl _ _,HR2.out⟩
     case round =>
      obtain ⟨j,hj,rfl,hbr,hrs⟩:=hrel
      have HBR:=Zb hbr
      have HRS:=Zb hrs
      have hwz:w.heap.size+1<wr.heap.size:=by
       have:=HZ.out
       have:=hbr.size
       omega
      obtain ⟨hbw,g,h⟩:=HX.out wr hbr
      have q0:=g 0 _ rfl
      have w0:=h 0 _ rfl
      have q1:=g 1 _ rfl
      have HBW:=Zb hbw
      clear hbr hrs g h hbw
      by_cases hlt:j<n1
      ·have hlt':(j:Int)<n1:=by omega
       obtain ⟨x,hx⟩:∃ q,ns[j]?=some q:=⟨_,List.getElem?_eq_getElem (by have:=HN1.out;omega)⟩
       obtain ⟨y,hy⟩:∃ q,ns'[j]?=some q:=⟨_,List.getElem?_eq_getElem (by have:=HN2.out;omega)⟩
       obtain ⟨bl,off,rfl,hbl,hc⟩:=HKK.out.1.resolve_left (by intro e;rw [e] at hx;simp at hx)
       obtain ⟨bl2,off2,rfl,hbl2,hc2⟩:=HKK.out.2.resolve_left (by intro e;rw [e] at hy;simp at hy)
       obtain ⟨v0,v1,v2,⟨c0,c1,c2⟩,hlx⟩:=((hc j _ hx).below (HBW.out.mono hB) hbl).lies
       obtain ⟨u0,u1,u2,⟨d0,d1,d2⟩,hly⟩:=((hc2 j _ hy).below (HBW.out.mono hB) hbl2).lies
       have hbw:bl<wr.heap.size:=by omega
       have hbw2:bl2<wr.heap.size:=by omega
       have HK1:=Zb (fun W (hb:Below wr.heap.size wr W)=>Zli x y B _ _ W (by have:=hb.size;omega) (hlx.below (hb.mono (by omega))) (hly.below (hb.mono (by omega))))
       obtain ⟨b,hb⟩:∃ b,Zco x y=b:=⟨_,rfl⟩
       rw [hb] at HK1
       have HE:Hid (res=((b&&Zau (ns.drop (j+1)) (ns'.drop (j+1)))&&Zad rs rs')):=by
        show _=_
        rw [← HRS.out,Zkz hx hy,hb]
       have HC:Hid (∀ W,Below wr.heap.size wr W→W.cell? ⟨w.heap.size,0,none⟩=some (.slice (some ⟨bl,off,none⟩) n1 nc)∧W.cell? ⟨w.heap.size+1,0,none⟩=some (.slice (some ⟨bl2,off2,none⟩) n1 nc2)):=fun W hb =>
        ⟨(hb.cell (p:=⟨w.heap.size,0,none⟩) (by show w.heap.size<_;omega)).trans q0,(hb.cell (p:=⟨w.heap.size+1,0,none⟩) hwz).trans w0⟩
       clear hx hy hc hc2 hlx hly hb
       go_upto_region 6 with fail
       clear q0 w0
       show (Code.region 6 RGN true).wp _ _ _ _
       cases b with
       | false =>
        refine Zuy w.heap.size (w.heap.size+1) bl off n1 nc bl2 off2 n1 nc2 j v0 v1 v2 u0 u1 u2 _ _ _ rfl ⟨rfl,rfl,rfl⟩ ?_ ?_
        ·intro W hW
         exact ⟨(HC.out W hW).1,hlt,by omega,(hW.cell (p:=⟨bl,off+j*3,none⟩) hbw).trans c0,(hW.cell (p:=⟨bl,off+j*3+1,none⟩) hbw).trans c1,(hW.cell (p:=⟨bl,off+j*3+2,none⟩) hbw).trans c2,(HC.out W hW).2,hlt,by omega,(hW.cell (p:=⟨bl2,off2+j*3,none⟩) hbw2).trans d0,(hW.cell (p:=⟨bl2,off2+j*3+1,none⟩) hbw2).trans d1,(hW.cell (p:=⟨bl2,off2+j*3+2,none⟩) hbw2).trans d2,HK1.out W hW⟩
        intro c W3 hS hB3 e55
        rw [Zs hS [44,45,46,47,48,49,50,51,52,53,54,55] (by kernel_rfl)]
        simp only [List.foldl_cons,List.foldl_nil,List.setIfInBounds_toArray,List.set_cons_succ,List.set_cons_zero,show Zcs c 55=_ from e55]
        clear e55 hS
        have HB3:=Zb (Za HBR.out hB3)
        clear hB3
        have HF:Hid (res=false):=by
         show _=_
         rw [HE.out];rfl
        go_wp2_with fail
        go_ret
        exact ⟨by rw [HF.out];rfl,Za HB1.out HB3.out⟩
       | true =>
        refine Zuz w.heap.size (w.heap.size+1) bl off n1 nc bl2 off2 n1 nc2 j v0 v1 v2 u0 u1 u2 _ _ _ rfl ⟨rfl,rfl,rfl⟩ ?_ ?_
        ·intro W hW
         exact ⟨(HC.out W hW).1,hlt,by omega,(hW.cell (p:=⟨bl,off+j*3,none⟩) hbw).trans c0,(hW.cell (p:=⟨bl,off+j*3+1,none⟩) hbw).trans c1,(hW.cell (p:=⟨bl,off+j*3+2,none⟩) hbw).trans c2,(HC.out W hW).2,hlt,by omega,(hW.cell (p:=⟨bl2,off2+j*3,none⟩) hbw2).trans d0,(hW.cell (p:=⟨bl2,off2+j*3+1,none⟩) hbw2).trans d1,(hW.cell (p:=⟨bl2,off2+j*3+2,none⟩) hbw2).trans d2,HK1.out W hW⟩
        intro c W3 hS hB3 e55
        rw [Zs hS [44,45,46,47,48,49,50,51,52,53,54,55] (by kernel_rfl)]
        simp only [List.foldl_cons,List.foldl_nil,List.setIfInBounds_toArray,List.set_cons_succ,List.set_cons_zero,show Zcs c 55=_ from e55]
        clear e55 hS
        have HB3:=Zb (Za HBR.out hB3)
        clear hB3
        have HN2:Hid ((Zau (ns.drop (j+1)) (ns'.drop (j+1))&&Zad rs rs')=res):=by
         show _=_
         rw [HE.out];rfl
        go_wp2_with fail
        go_roundw
        case rel=>exact ⟨j+1,by omega,by go_num,HB3.out,HN2.out⟩
        case measure=>simp [intOf];omega
      ·have HR3:Hid (Zad rs rs'=res):=by
        show _=_
        rw [← HRS.out,List.drop_of_length_le (by have:=HN1.out;omega)];rfl
       have hlt':¬ (j:Int)<n1:=by omega
       have HBA:=HBR
       go_wp2_with fail
       clear hlt hlt' HRS hj HBR q0 w0 q1 hwz HBW
       go_loopw [6] (fun i wr=>∃ j:Nat,j≤m1∧i=.int .i64 j∧Below W1.heap.size W1 wr∧Zad (rs.drop j) (rs'.drop j)=res) (fun i _=>m1 - (intOf i).toNat)
       case atStart=>exact ⟨0,Nat.zero_le _,rfl,HBA.out,HR3.out⟩
       case round =>
        clear HBA
        obtain ⟨j,hj,rfl,hbr,hrs⟩:=hrel
        have HBR:=Zb hbr
        have HRS:=Zb hrs
        have hwz:w.heap.size+1<wr.heap.size:=by
         have:=HZ.out
         have:=hbr.size
         omega
        obtain ⟨hbw,g,h⟩:=HX.out wr hbr
        have q1:=g 1 _ rfl
        have w1:=h 1 _ rfl
        have HBW:=Zb hbw
        clear hbr hrs g h hbw
        by_cases hlt:j<m1
        ·have hlt':(j:Int)<m1:=by omega
         obtain ⟨x,hx⟩:∃ q,rs[j]?=some q:=⟨_,List.getElem?_eq_getElem (by have:=HM1.out;omega)⟩
         obtain ⟨y,hy⟩:∃ q,rs'[j]?=some q:=⟨_,List.getElem?_eq_getElem (by have:=HM2.out;omega)⟩
         obtain ⟨bl,off,rfl,hbl,hc⟩:=HTT.out.1.resolve_left (by intro e;rw [e] at hx;simp at hx)
         obtain ⟨bl2,off2,rfl,hbl2,hc2⟩:=HTT.out.2.resolve_left (by intro e;rw [e] at hy;simp at hy)
         obtain ⟨v0,v1,v2,v3,v4,⟨c0,c1,c2,c3,c4⟩,hlx⟩:=((hc j _ hx).below (HBW.out.mono hB) hbl).lies
         obtain ⟨u0,u1,u2,u3,u4,⟨d0,d1,d2,d3,d4⟩,hly⟩:=((hc2 j _ hy).below (HBW.out.mono hB) hbl2).lies
         have hbw:bl<wr.heap.size:=by omega
         have hbw2:bl2<wr.heap.size:=by omega
         have HK1:=Zb (fun W (hb:Below wr.heap.size wr W)=>Zm5 x y B _ _ W (by have:=hb.size;omega) (hlx.below (hb.mono (by omega))) (hly.below (hb.mono (by omega))))
         obtain ⟨b,hb⟩:∃ b,Zdk x y=b:=⟨_,rfl⟩
         rw [hb] at HK1
         have HE:Hid (res=((b&&Zad (rs.drop (j+1)) (rs'.drop (j+1))))):=by
          show _=_
          rw [← HRS.out,Zmk hx hy,hb]
         have HC:Hid (∀ W,Below wr.heap.size wr W→W.cell? ⟨w.heap.size,1,none⟩=some (.slice (some ⟨bl,off,none⟩) m1 rc)∧W.cell? ⟨w.heap.size+1,1,none⟩=some (.slice (some ⟨bl2,off2,none⟩) m1 rc2)):=fun W hb =>
          ⟨(hb.cell (p:=⟨w.heap.size,1,none⟩) (by show w.heap.size<_;omega)).trans q1,(hb.cell (p:=⟨w.heap.size+1,1,none⟩) hwz).trans w1⟩
         clear hx hy hc hc2 hlx hly hb
         go_upto_region 11 with fail
         clear q1 w1
         show (Code.region 11 RGR true).wp _ _ _ _
         cases b with
         | false =>
          refine Zu0 w.heap.size (w.heap.size+1) bl off m1 rc bl2 off2 m1 rc2 j v0 v1 v2 v3 v4 u0 u1 u2 u3 u4 _ _ _ rfl ⟨rfl,rfl,rfl⟩ ?_ ?_
          ·intro W hW
           exact ⟨(HC.out W hW).1,hlt,by omega,(hW.cell (p:=⟨bl,off+j*5,none⟩) hbw).trans c0,(hW.cell (p:=⟨bl,off+j*5+1,none⟩) hbw).trans c1,(hW.cell (p:=⟨bl,off+j*5+2,none⟩) hbw).trans c2,(hW.cell (p:=⟨bl,off+j*5+3,none⟩) hbw).trans c3,(hW.cell (p:=⟨bl,off+j*5+4,none⟩) hbw).trans c4,(HC.out W hW).2,hlt,by omega,(hW.cell (p:=⟨bl2,off2+j*5,none⟩) hbw2).trans d0,(hW.cell (p:=⟨bl2,off2+j*5+1,none⟩) hbw2).trans d1,(hW.cell (p:=⟨bl2,off2+j*5+2,none⟩) hbw2).trans d2,(hW.cell (p:=⟨bl2,off2+j*5+3,none⟩) hbw2).trans d3,(hW.cell (p:=⟨bl2,off2+j*5+4,none⟩) hbw2).trans d4,HK1.out W hW⟩
          intro c W3 hS hB3 e74
          rw [Zs hS [63,64,65,66,67,68,69,70,71,72,73,74] (by kernel_rfl)]
          simp only [List.foldl_cons,List.foldl_nil,List.setIfInBounds_toArray,List.set_cons_succ,List.set_cons_zero,show Zcs c 74=_ from e74]
          clear e74 hS
          have HB3:=Zb (Za HBR.out hB3)
          clear hB3
          have HF:Hid (res=false):=by
           show _=_
           rw [HE.out];rfl
          go_wp2_with fail
          go_ret
          exact ⟨by rw [HF.out];rfl,Za HB1.out HB3.out⟩
         | true =>
          refine Zu1 w.heap.size (w.heap.size+1) bl off m1 rc bl2 off2 m1 rc2 j v0 v1 v2 v3 v4 u0 u1 u2 u3 u4 _ _ _ rfl ⟨rfl,rfl,rfl⟩ ?_ ?_
          ·intro W hW
           exact ⟨(HC.out W hW).1,hlt,by omega,(hW.cell (p:=⟨bl,off+j*5,none⟩) hbw).trans c0,(hW.cell (p:=⟨bl,off+j*5+1,none⟩) hbw).trans c1,(hW.cell (p:=⟨bl,off+j*5+2,none⟩) hbw).trans c2,(hW.cell (p:=⟨bl,off+j*5+3,none⟩) hbw).trans c3,(hW.cell (p:=⟨bl,off+j*5+4,none⟩) hbw).trans c4,(HC.out W hW).2,hlt,by omega,(hW.cell (p:=⟨bl2,off2+j*5,none⟩) hbw2).trans d0,(hW.cell (p:=⟨bl2,off2+j*5+1,none⟩) hbw2).trans d1,(hW.cell (p:=⟨bl2,off2+j*5+2,none⟩) hbw2).trans d2,(hW.cell (p:=⟨bl2,off2+j*5+3,none⟩) hbw2).trans d3,(hW.cell (p:=⟨bl2,off2+j*5+4,none⟩) hbw2).trans d4,HK1.out W hW⟩
          intro c W3 hS hB3 e74
          rw [Zs hS [63,64,65,66,67,68,69,70,71,72,73,74] (by kernel_rfl)]
          simp only [List.foldl_cons,List.foldl_nil,List.setIfInBounds_toArray,List.set_cons_succ,List.set_cons_zero,show Zcs c 74=_ from e74]
          clear e74 hS
          have HB3:=Zb (Za HBR.out hB3)
          clear hB3
          have HN2:Hid (Zad (rs.drop (j+1)) (rs'.drop (j+1))=res):=by
           show _=_
           rw [HE.out];rfl
          go_wp2_with fail
          go_roundw
          case rel=>exact ⟨j+1,by omega,by go_num,HB3.out,HN2.out⟩
          case measure=>simp [intOf];omega
        ·have HF:Hid (res=true):=by
          show _=_
          rw [← HRS.out,List.drop_of_length_le (by have:=HM1.out;omega)];rfl
         have hlt':¬ (j:Int)<m1:=by omega
         go_wp2_with fail
         go_ret
         exact ⟨by rw [HF.out];rfl,HBW.out⟩
