/- The same texts, the same properties: the document's word. -/
import Derived.Test.YteddjlbfbpecjaaGreatDoorJoin2
import Derived.Test.YteddjlbfbpecjaaGreatDoorJoin17
namespace Go.Proofs.YteddjlbfbpecjaaGreatDoor
open Go.RowKit Go.Shelf Go.WideShapes
set_option maxHeartbeats 8000000
set_option maxRecDepth 100000
set_option linter.unusedVariables false
set_option linter.unusedSimpArgs false
noncomputable def RST  : Array Oper:=regionAt Tryz.f105 6
def LST  : List Sig:=[⟨17,.move (.tmp 0),44,none⟩,⟨18,.move (.tmp 5),3,none⟩,⟨19,.indexAddr 44 (.tmp 17) (.tmp 18),0,none⟩,⟨20,.load 9 (.tmp 19),9,none⟩,⟨21,.move (.tmp 1),44,none⟩,⟨22,.move (.tmp 5),3,none⟩,⟨23,.indexAddr 44 (.tmp 21) (.tmp 22),0,none⟩,⟨24,.load 9 (.tmp 23),9,none⟩,⟨25,.binOp .neq 9 (.tmp 20) (.tmp 24) 9,4,none⟩]
theorem hLST  : sigsOf RST=LST.map some:=by kernel_rfl
def AST  : List (List Nat):=[[],[],[0,1],[2],[],[],[4,5],[6],[3,7]]
structure BaseST (bl off kl kc bl2 off2 kl2 kc2 j:Nat) (x y:ByteArray) (c:Act):Prop where
 t0:c.eval (.tmp 0)=.slice (some ⟨bl,off,none⟩) kl kc
 t1:c.eval (.tmp 1)=.slice (some ⟨bl2,off2,none⟩) kl2 kc2
 t5:c.eval (.tmp 5)=.int .i64 (j:Int)
def VSTA (bl off kl kc bl2 off2 kl2 kc2 j:Nat) (x y:ByteArray):List Value:=[.slice (some ⟨bl,off,none⟩) kl kc,.int .i64 (j:Int),.pointer (some ⟨bl,off+j,none⟩),.string x,.slice (some ⟨bl2,off2,none⟩) kl2 kc2,.int .i64 (j:Int),.pointer (some ⟨bl2,off2+j,none⟩),.string y,.bool true]
structure WorldSTA (bl off kl kc bl2 off2 kl2 kc2 j:Nat) (x y:ByteArray) (w:World):Prop where
 lt:j<kl
 le:kl≤9223372036854775807
 cx:w.cell? ⟨bl,off+j,none⟩=some (.string x)
 lt2:j<kl2
 le2:kl2≤9223372036854775807
 cy:w.cell? ⟨bl2,off2+j,none⟩=some (.string y)
 a1:(!(x.toList==y.toList))=true
theorem regionSTA (bl off kl kc bl2 off2 kl2 kc2 j:Nat) (x y:ByteArray) (Q:Exit→Act→World→Prop) (base:Act) (w0:World) (hsz:base.tmps.size=26) (hb:BaseST bl off kl kc bl2 off2 kl2 kc2 j x y base)
  (hW:∀ w,Below w0.heap.size w0 w→WorldSTA bl off kl kc bl2 off2 kl2 kc2 j x y w) (hQ:∀ c w,Same RST base c→Below w0.heap.size w0 w→c.eval (.tmp 25)=.bool true→Q .normal c w):(Code.region 6 RST true).wp Tryz.prog Q base w0:=by
 refine told_rule (B:=BaseST bl off kl kc bl2 off2 kl2 kc2 j x y) (T:=WorldSTA bl off kl kc bl2 off2 kl2 kc2 j x y) (n:=9) (k:=8) LST AST (VSTA bl off kl kc bl2 off2 kl2 kc2 j x y) hLST rfl (by kernel_rfl) (by kernel_rfl) (by kernel_rfl) (by rw [hsz];kernel_rfl) (fun c hS=>⟨(same_eval hS (by kernel_rfl)).trans hb.t0,(same_eval hS (by kernel_rfl)).trans hb.t1,(same_eval hS (by kernel_rfl)).trans hb.t5⟩) hW ?_ (by decide) rfl rfl hQ
 clear hsz hb hW hQ
 iterate 9 (refine below_succ ?_ (by
  intro c w hb hW hEq
  obtain ⟨t0,t1,t5⟩:=hb
  obtain ⟨lt,le,cx,lt2,le2,cy,a1⟩:=hW
  have ec:=evc c
  have ef:=evf c
  dsimp only [AST,LST,VSTA,nth,EqAt,look,OpGoal] at hEq ⊢
  first
  | exact ⟨by first | exact hEq.1 | exact hEq.2.1 | exact hEq.2.2.1 | exact hEq.2.2.2.1,.inr ⟨.inl rfl,rfl⟩⟩
  | exact ⟨by first | exact hEq.1 | exact hEq.2.1 | exact hEq.2.2.1 | exact hEq.2.2.2.1,.inr ⟨.inr rfl,rfl⟩⟩
  | ((try refine ⟨by first | exact hEq.1 | exact hEq.2.1 | exact hEq.2.2.1 | exact hEq.2.2.2.1,.inl ⟨rfl,?_⟩⟩);first | (refine .inl fun pos af=>?_;(dsimp only [Sig.oper];generalize c.eval=ρ at *;go_simp;done)) | (refine .inl fun pos af=>?_;dsimp only [Sig.oper];generalize c.eval=ρ at *;go_simp;simp only [decide_eq_true_eq,decide_eq_false_iff_not] at *;omega))))
 exact below_zero
def VSTB (bl off kl kc bl2 off2 kl2 kc2 j:Nat) (x y:ByteArray):List Value:=[.slice (some ⟨bl,off,none⟩) kl kc,.int .i64 (j:Int),.pointer (some ⟨bl,off+j,none⟩),.string x,.slice (some ⟨bl2,off2,none⟩) kl2 kc2,.int .i64 (j:Int),.pointer (some ⟨bl2,off2+j,none⟩),.string y,.bool false]
structure WorldSTB (bl off kl kc bl2 off2 kl2 kc2 j:Nat) (x y:ByteArray) (w:World):Prop where
 lt:j<kl
 le:kl≤9223372036854775807
 cx:w.cell? ⟨bl,off+j,none⟩=some (.string x)
 lt2:j<kl2
 le2:kl2≤9223372036854775807
 cy:w.cell? ⟨bl2,off2+j,none⟩=some (.string y)
 a1:(!(x.toList==y.toList))=false
theorem regionSTB (bl off kl kc bl2 off2 kl2 kc2 j:Nat) (x y:ByteArray) (Q:Exit→Act→World→Prop) (base:Act) (w0:World) (hsz:base.tmps.size=26) (hb:BaseST bl off kl kc bl2 off2 kl2 kc2 j x y base)
  (hW:∀ w,Below w0.heap.size w0 w→WorldSTB bl off kl kc bl2 off2 kl2 kc2 j x y w) (hQ:∀ c w,Same RST base c→Below w0.heap.size w0 w→c.eval (.tmp 25)=.bool false→Q .normal c w):(Code.region 6 RST true).wp Tryz.prog Q base w0:=by
 refine told_rule (B:=BaseST bl off kl kc bl2 off2 kl2 kc2 j x y) (T:=WorldSTB bl off kl kc bl2 off2 kl2 kc2 j x y) (n:=9) (k:=8) LST AST (VSTB bl off kl kc bl2 off2 kl2 kc2 j x y) hLST rfl (by kernel_rfl) (by kernel_rfl) (by kernel_rfl) (by rw [hsz];kernel_rfl) (fun c hS=>⟨(same_eval hS (by kernel_rfl)).trans hb.t0,(same_eval hS (by kernel_rfl)).trans hb.t1,(same_eval hS (by kernel_rfl)).trans hb.t5⟩) hW ?_ (by decide) rfl rfl hQ
 clear hsz hb hW hQ
 iterate 9 (refine below_succ ?_ (by
  intro c w hb hW hEq
  obtain ⟨t0,t1,t5⟩:=hb
  obtain ⟨lt,le,cx,lt2,le2,cy,a1⟩:=hW
  have ec:=evc c
  have ef:=evf c
  dsimp only [AST,LST,VSTB,nth,EqAt,look,OpGoal] at hEq ⊢
  first
  | exact ⟨by first | exact hEq.1 | exact hEq.2.1 | exact hEq.2.2.1 | exact hEq.2.2.2.1,.inr ⟨.inl rfl,rfl⟩⟩
  | exact ⟨by first | exact hEq.1 | exact hEq.2.1 | exact hEq.2.2.1 | exact hEq.2.2.2.1,.inr ⟨.inr rfl,rfl⟩⟩
  | ((try refine ⟨by first | exact hEq.1 | exact hEq.2.1 | exact hEq.2.2.1 | exact hEq.2.2.2.1,.inl ⟨rfl,?_⟩⟩);first | (refine .inl fun pos af=>?_;(dsimp only [Sig.oper];generalize c.eval=ρ at *;go_simp;done)) | (refine .inl fun pos af=>?_;dsimp only [Sig.oper];generalize c.eval=ρ at *;go_simp;simp only [decide_eq_true_eq,decide_eq_false_iff_not] at *;omega))))
 exact below_zero
noncomputable def RSP  : Array Oper:=regionAt Tryz.f106 6
def LSP  : List Sig:=[⟨17,.move (.tmp 0),45,none⟩,⟨18,.move (.tmp 5),3,none⟩,⟨19,.indexAddr 45 (.tmp 17) (.tmp 18),0,none⟩,⟨20,.fieldAddr 79 (.tmp 19) 0,0,none⟩,⟨21,.load 9 (.tmp 20),9,none⟩,⟨22,.move (.tmp 1),45,none⟩,⟨23,.move (.tmp 5),3,none⟩,⟨24,.indexAddr 45 (.tmp 22) (.tmp 23),0,none⟩,⟨25,.fieldAddr 79 (.tmp 24) 0,0,none⟩,⟨26,.load 9 (.tmp 25),9,none⟩,⟨27,.binOp .neq 9 (.tmp 21) (.tmp 26) 9,4,none⟩,⟨28,.move (.tmp 27),4,none⟩,⟨29,.move (.tmp 0),45,some (11,false)⟩,⟨30,.move (.tmp 5),3,some (11,false)⟩,⟨31,.indexAddr 45 (.tmp 29) (.tmp 30),0,some (11,false)⟩,⟨32,.fieldAddr 79 (.tmp 31) 1,0,some (11,false)⟩,⟨33,.load 60 (.tmp 32),60,some (11,false)⟩,⟨34,.move (.tmp 1),45,some (11,false)⟩,⟨35,.move (.tmp 5),3,some (11,false)⟩,⟨36,.indexAddr 45 (.tmp 34) (.tmp 35),0,some (11,false)⟩,⟨37,.fieldAddr 79 (.tmp 36) 1,0,some (11,false)⟩,⟨38,.load 60 (.tmp 37),60,some (11,false)⟩,⟨39,.call { callee:=.value (.func 151),args:=#[.tmp 33,.tmp 38],argTypes:=#[60,60] },4,some (11,false)⟩,⟨40,.unOp .not 4 (.tmp 39),4,some (11,false)⟩,⟨41,.pick (.tmp 28) (.const (.bool true)) (.tmp 40),4,none⟩]
theorem hLSP  : sigsOf RSP=LSP.map some:=by kernel_rfl
def ASP  : List (List Nat):=[[],[],[0,1],[2],[3],[],[],[5,6],[7],[8],[4,9],[10],[11],[11],[11,12,13],[11,14],[11,15],[11],[11],[11,17,18],[11,19],[11,20],[11,16,21],[11,22],[11,23]]
structure BaseSP (bl off kl kc bl2 off2 kl2 kc2 j:Nat) (x y:ByteArray) (v0 v1 v2 v3 v4 v5 u0 u1 u2 u3 u4 u5:Value) (c:Act):Prop where
 t0:c.eval (.tmp 0)=.slice (some ⟨bl,off,none⟩) kl kc
 t1:c.eval (.tmp 1)=.slice (some ⟨bl2,off2,none⟩) kl2 kc2
 t5:c.eval (.tmp 5)=.int .i64 (j:Int)
def VSPA (bl off kl kc bl2 off2 kl2 kc2 j:Nat) (x y:ByteArray) (v0 v1 v2 v3 v4 v5 u0 u1 u2 u3 u4 u5:Value):List Value:=[.slice (some ⟨bl,off,none⟩) kl kc,.int .i64 (j:Int),.pointer (some ⟨bl,off+j*7,none⟩),.pointer (some ⟨bl,off+j*7,none⟩),.string x,.slice (some ⟨bl2,off2,none⟩) kl2 kc2,.int .i64 (j:Int),.pointer (some ⟨bl2,off2+j*7,none⟩),.pointer (some ⟨bl2,off2+j*7,none⟩),.string y,.bool true,.bool true,undef,undef,undef,undef,undef,undef,undef,undef,undef,undef,undef,undef,.bool true]
structure WorldSPA (bl off kl kc bl2 off2 kl2 kc2 j:Nat) (x y:ByteArray) (v0 v1 v2 v3 v4 v5 u0 u1 u2 u3 u4 u5:Value) (w:World):Prop where
 lt:j<kl
 le:kl≤9223372036854775807
 cx:w.cell? ⟨bl,off+j*7,none⟩=some (.string x)
 lt2:j<kl2
 le2:kl2≤9223372036854775807
 cy:w.cell? ⟨bl2,off2+j*7,none⟩=some (.string y)
 a1:(!(x.toList==y.toList))=true
theorem regionSPA (bl off kl kc bl2 off2 kl2 kc2 j:Nat) (x y:ByteArray) (v0 v1 v2 v3 v4 v5 u0 u1 u2 u3 u4 u5:Value) (Q:Exit→Act→World→Prop) (base:Act) (w0:World) (hsz:base.tmps.size=42) (hb:BaseSP bl off kl kc bl2 off2 kl2 kc2 j x y v0 v1 v2 v3 v4 v5 u0 u1 u2 u3 u4 u5 base)
  (hW:∀ w,Below w0.heap.size w0 w→WorldSPA bl off kl kc bl2 off2 kl2 kc2 j x y v0 v1 v2 v3 v4 v5 u0 u1 u2 u3 u4 u5 w) (hQ:∀ c w,Same RSP base c→Below w0.heap.size w0 w→c.eval (.tmp 41)=.bool true→Q .normal c w):(Code.region 6 RSP true).wp Tryz.prog Q base w0:=by
 refine told_rule (B:=BaseSP bl off kl kc bl2 off2 kl2 kc2 j x y v0 v1 v2 v3 v4 v5 u0 u1 u2 u3 u4 u5) (T:=WorldSPA bl off kl kc bl2 off2 kl2 kc2 j x y v0 v1 v2 v3 v4 v5 u0 u1 u2 u3 u4 u5) (n:=25) (k:=24) LSP ASP (VSPA bl off kl kc bl2 off2 kl2 kc2 j x y v0 v1 v2 v3 v4 v5 u0 u1 u2 u3 u4 u5) hLSP rfl (by kernel_rfl) (by kernel_rfl) (by kernel_rfl) (by rw [hsz];kernel_rfl) (fun c hS=>⟨(same_eval hS (by kernel_rfl)).trans hb.t0,(same_eval hS (by kernel_rfl)).trans hb.t1,(same_eval hS (by kernel_rfl)).trans hb.t5⟩) hW ?_ (by decide) rfl rfl hQ
 clear hsz hb hW hQ
 iterate 25 (refine below_succ ?_ (by
  intro c w hb hW hEq
  obtain ⟨t0,t1,t5⟩:=hb
  obtain ⟨lt,le,cx,lt2,le2,cy,a1⟩:=hW
  have ec:=evc c
  have ef:=evf c
  dsimp only [ASP,LSP,VSPA,nth,EqAt,look,OpGoal] at hEq ⊢
  first
  | exact ⟨by first | exact hEq.1 | exact hEq.2.1 | exact hEq.2.2.1 | exact hEq.2.2.2.1,.inr ⟨.inl rfl,rfl⟩⟩
  | exact ⟨by first | exact hEq.1 | exact hEq.2.1 | exact hEq.2.2.1 | exact hEq.2.2.2.1,.inr ⟨.inr rfl,rfl⟩⟩
  | ((try refine ⟨by first | exact hEq.1 | exact hEq.2.1 | exact hEq.2.2.1 | exact hEq.2.2.2.1,.inl ⟨rfl,?_⟩⟩);first | (refine .inl fun pos af=>?_;(dsimp only [Sig.oper];generalize c.eval=ρ at *;go_simp;done)) | (refine .inl fun pos af=>?_;dsimp only [Sig.oper];generalize c.eval=ρ at *;go_simp;simp only [decide_eq_true_eq,decide_eq_false_iff_not] at *;omega))))
 exact below_zero
def VSPB (bl off kl kc bl2 off2 kl2 kc2 j:Nat) (x y:ByteArray) (v0 v1 v2 v3 v4 v5 u0 u1 u2 u3 u4 u5:Value):List Value:=[.slice (some ⟨bl,off,none⟩) kl kc,.int .i64 (j:Int),.pointer (some ⟨bl,off+j*7,none⟩),.pointer (some ⟨bl,off+j*7,none⟩),.string x,.slice (some ⟨bl2,off2,none⟩) kl2 kc2,.int .i64 (j:Int),.pointer (some ⟨bl2,off2+j*7,none⟩),.pointer (some ⟨bl2,off2+j*7,none⟩),.string y,.bool false,.bool false,.slice (some ⟨bl,off,none⟩) kl kc,.int .i64 (j:Int),.pointer (some ⟨bl,off+j*7,none⟩),.pointer (some ⟨bl,off+j*7+1,none⟩),.agg #[v0,v1,v2,v3,v4,v5],.slice (some ⟨bl2,off2,none⟩) kl2 kc2,.int .i64 (j:Int),.pointer (some ⟨bl2,off2+j*7,none⟩),.pointer (some ⟨bl2,off2+j*7+1,none⟩),.agg #[u0,u1,u2,u3,u4,u5],.bool false,.bool true,.bool true]
structure WorldSPB (bl off kl kc bl2 off2 kl2 kc2 j:Nat) (x y:ByteArray) (v0 v1 v2 v3 v4 v5 u0 u1 u2 u3 u4 u5:Value) (w:World):Prop where
 lt:j<kl
 le:kl≤9223372036854775807
 cx:w.cell? ⟨bl,off+j*7,none⟩=some (.string x)
 lt2:j<kl2
 le2:kl2≤9223372036854775807
 cy:w.cell? ⟨bl2,off2+j*7,none⟩=some (.string y)
 a1:(!(x.toList==y.toList))=false
 c0:w.cell? ⟨bl,off+j*7+1,none⟩=some (v0)
 c1:w.cell? ⟨bl,off+j*7+2,none⟩=some (v1)
 c2:w.cell? ⟨bl,off+j*7+3,none⟩=some (v2)
 c3:w.cell? ⟨bl,off+j*7+4,none⟩=some (v3)
 c4:w.cell? ⟨bl,off+j*7+5,none⟩=some (v4)
 c5:w.cell? ⟨bl,off+j*7+6,none⟩=some (v5)
 d0:w.cell? ⟨bl2,off2+j*7+1,none⟩=some (u0)
 d1:w.cell? ⟨bl2,off2+j*7+2,none⟩=some (u1)
 d2:w.cell? ⟨bl2,off2+j*7+3,none⟩=some (u2)
 d3:w.cell? ⟨bl2,off2+j*7+4,none⟩=some (u3)
 d4:w.cell? ⟨bl2,off2+j*7+5,none⟩=some (u4)
 d5:w.cell? ⟨bl2,off2+j*7+6,none⟩=some (u5)
 k1:Calls Tryz.prog 151 #[.agg #[v0,v1,v2,v3,v4,v5],.agg #[u0,u1,u2,u3,u4,u5]] w fun e w'=>e=.returned (.bool false)∧Below w.heap.size w w'
theorem regionSPB (bl off kl kc bl2 off2 kl2 kc2 j:Nat) (x y:ByteArray) (v0 v1 v2 v3 v4 v5 u0 u1 u2 u3 u4 u5:Value) (Q:Exit→Act→World→Prop) (base:Act) (w0:World) (hsz:base.tmps.size=42) (hb:BaseSP bl off kl kc bl2 off2 kl2 kc2 j x y v0 v1 v2 v3 v4 v5 u0 u1 u2 u3 u4 u5 base)
  (hW:∀ w,Below w0.heap.size w0 w→WorldSPB bl off kl kc bl2 off2 kl2 kc2 j x y v0 v1 v2 v3 v4 v5 u0 u1 u2 u3 u4 u5 w) (hQ:∀ c w,Same RSP base c→Below w0.heap.size w0 w→c.eval (.tmp 41)=.bool true→Q .normal c w):(Code.region 6 RSP true).wp Tryz.prog Q base w0:=by
 refine told_rule (B:=BaseSP bl off kl kc bl2 off2 kl2 kc2 j x y v0 v1 v2 v3 v4 v5 u0 u1 u2 u3 u4 u5) (T:=WorldSPB bl off kl kc bl2 off2 kl2 kc2 j x y v0 v1 v2 v3 v4 v5 u0 u1 u2 u3 u4 u5) (n:=25) (k:=24) LSP ASP (VSPB bl off kl kc bl2 off2 kl2 kc2 j x y v0 v1 v2 v3 v4 v5 u0 u1 u2 u3 u4 u5) hLSP rfl (by kernel_rfl) (by kernel_rfl) (by kernel_rfl) (by rw [hsz];kernel_rfl) (fun c hS=>⟨(same_eval hS (by kernel_rfl)).trans hb.t0,(same_eval hS (by kernel_rfl)).trans hb.t1,(same_eval hS (by kernel_rfl)).trans hb.t5⟩) hW ?_ (by decide) rfl rfl hQ
 clear hsz hb hW hQ
 iterate 25 (refine below_succ ?_ (by
  intro c w hb hW hEq
  obtain ⟨t0,t1,t5⟩:=hb
  obtain ⟨lt,le,cx,lt2,le2,cy,a1,c0,c1,c2,c3,c4,c5,d0,d1,d2,d3,d4,d5,k1⟩:=hW
  have ec:=evc c
  have ef:=evf c
  dsimp only [ASP,LSP,VSPB,nth,EqAt,look,OpGoal] at hEq ⊢
  first
  | exact ⟨by first | exact hEq.1 | exact hEq.2.1 | exact hEq.2.2.1 | exact hEq.2.2.2.1,.inr ⟨.inl rfl,rfl⟩⟩
  | exact ⟨by first | exact hEq.1 | exact hEq.2.1 | exact hEq.2.2.1 | exact hEq.2.2.2.1,.inr ⟨.inr rfl,rfl⟩⟩
  | ((try refine ⟨by first | exact hEq.1 | exact hEq.2.1 | exact hEq.2.2.1 | exact hEq.2.2.2.1,.inl ⟨rfl,?_⟩⟩);first | (refine od_static Tryz.call151 k1 ?_;simp only [List.map_toArray,List.map_cons,List.map_nil,hEq];done) | (refine .inl fun pos af=>?_;(clear k1;dsimp only [Sig.oper];generalize c.eval=ρ at *;go_simp;done)) | (refine .inl fun pos af=>?_;clear k1;dsimp only [Sig.oper];generalize c.eval=ρ at *;go_simp;simp only [decide_eq_true_eq,decide_eq_false_iff_not] at *;omega))))
 exact below_zero
def VSPC (bl off kl kc bl2 off2 kl2 kc2 j:Nat) (x y:ByteArray) (v0 v1 v2 v3 v4 v5 u0 u1 u2 u3 u4 u5:Value):List Value:=[.slice (some ⟨bl,off,none⟩) kl kc,.int .i64 (j:Int),.pointer (some ⟨bl,off+j*7,none⟩),.pointer (some ⟨bl,off+j*7,none⟩),.string x,.slice (some ⟨bl2,off2,none⟩) kl2 kc2,.int .i64 (j:Int),.pointer (some ⟨bl2,off2+j*7,none⟩),.pointer (some ⟨bl2,off2+j*7,none⟩),.string y,.bool false,.bool false,.slice (some ⟨bl,off,none⟩) kl kc,.int .i64 (j:Int),.pointer (some ⟨bl,off+j*7,none⟩),.pointer (some ⟨bl,off+j*7+1,none⟩),.agg #[v0,v1,v2,v3,v4,v5],.slice (some ⟨bl2,off2,none⟩) kl2 kc2,.int .i64 (j:Int),.pointer (some ⟨bl2,off2+j*7,none⟩),.pointer (some ⟨bl2,off2+j*7+1,none⟩),.agg #[u0,u1,u2,u3,u4,u5],.bool true,.bool false,.bool false]
structure WorldSPC (bl off kl kc bl2 off2 kl2 kc2 j:Nat) (x y:ByteArray) (v0 v1 v2 v3 v4 v5 u0 u1 u2 u3 u4 u5:Value) (w:World):Prop where
 lt:j<kl
 le:kl≤9223372036854775807
 cx:w.cell? ⟨bl,off+j*7,none⟩=some (.string x)
 lt2:j<kl2
 le2:kl2≤9223372036854775807
 cy:w.cell? ⟨bl2,off2+j*7,none⟩=some (.string y)
 a1:(!(x.toList==y.toList))=false
 c0:w.cell? ⟨bl,off+j*7+1,none⟩=some (v0)
 c1:w.cell? ⟨bl,off+j*7+2,none⟩=some (v1)
 c2:w.cell? ⟨bl,off+j*7+3,none⟩=some (v2)
 c3:w.cell? ⟨bl,off+j*7+4,none⟩=some (v3)
 c4:w.cell? ⟨bl,off+j*7+5,none⟩=some (v4)
 c5:w.cell? ⟨bl,off+j*7+6,none⟩=some (v5)
 d0:w.cell? ⟨bl2,off2+j*7+1,none⟩=some (u0)
 d1:w.cell? ⟨bl2,off2+j*7+2,none⟩=some (u1)
 d2:w.cell? ⟨bl2,off2+j*7+3,none⟩=some (u2)
 d3:w.cell? ⟨bl2,off2+j*7+4,none⟩=some (u3)
 d4:w.cell? ⟨bl2,off2+j*7+5,none⟩=some (u4)
 d5:w.cell? ⟨bl2,off2+j*7+6,none⟩=some (u5)
 k1:Calls Tryz.prog 151 #[.agg #[v0,v1,v2,v3,v4,v5],.agg #[u0,u1,u2,u3,u4,u5]] w fun e w'=>e=.returned (.bool true)∧Below w.heap.size w w'
theorem regionSPC (bl off kl kc bl2 off2 kl2 kc2 j:Nat) (x y:ByteArray) (v0 v1 v2 v3 v4 v5 u0 u1 u2 u3 u4 u5:Value) (Q:Exit→Act→World→Prop) (base:Act) (w0:World) (hsz:base.tmps.size=42) (hb:BaseSP bl off kl kc bl2 off2 kl2 kc2 j x y v0 v1 v2 v3 v4 v5 u0 u1 u2 u3 u4 u5 base)
  (hW:∀ w,Below w0.heap.size w0 w→WorldSPC bl off kl kc bl2 off2 kl2 kc2 j x y v0 v1 v2 v3 v4 v5 u0 u1 u2 u3 u4 u5 w) (hQ:∀ c w,Same RSP base c→Below w0.heap.size w0 w→c.eval (.tmp 41)=.bool false→Q .normal c w):(Code.region 6 RSP true).wp Tryz.prog Q base w0:=by
 refine told_rule (B:=BaseSP bl off kl kc bl2 off2 kl2 kc2 j x y v0 v1 v2 v3 v4 v5 u0 u1 u2 u3 u4 u5) (T:=WorldSPC bl off kl kc bl2 off2 kl2 kc2 j x y v0 v1 v2 v3 v4 v5 u0 u1 u2 u3 u4 u5) (n:=25) (k:=24) LSP ASP (VSPC bl off kl kc bl2 off2 kl2 kc2 j x y v0 v1 v2 v3 v4 v5 u0 u1 u2 u3 u4 u5) hLSP rfl (by kernel_rfl) (by kernel_rfl) (by kernel_rfl) (by rw [hsz];kernel_rfl) (fun c hS=>⟨(same_eval hS (by kernel_rfl)).trans hb.t0,(same_eval hS (by kernel_rfl)).trans hb.t1,(same_eval hS (by kernel_rfl)).trans hb.t5⟩) hW ?_ (by decide) rfl rfl hQ
 clear hsz hb hW hQ
 iterate 25 (refine below_succ ?_ (by
  intro c w hb hW hEq
  obtain ⟨t0,t1,t5⟩:=hb
  obtain ⟨lt,le,cx,lt2,le2,cy,a1,c0,c1,c2,c3,c4,c5,d0,d1,d2,d3,d4,d5,k1⟩:=hW
  have ec:=evc c
  have ef:=evf c
  dsimp only [ASP,LSP,VSPC,nth,EqAt,look,OpGoal] at hEq ⊢
  first
  | exact ⟨by first | exact hEq.1 | exact hEq.2.1 | exact hEq.2.2.1 | exact hEq.2.2.2.1,.inr ⟨.inl rfl,rfl⟩⟩
  | exact ⟨by first | exact hEq.1 | exact hEq.2.1 | exact hEq.2.2.1 | exact hEq.2.2.2.1,.inr ⟨.inr rfl,rfl⟩⟩
  | ((try refine ⟨by first | exact hEq.1 | exact hEq.2.1 | exact hEq.2.2.1 | exact hEq.2.2.2.1,.inl ⟨rfl,?_⟩⟩);first | (refine od_static Tryz.call151 k1 ?_;simp only [List.map_toArray,List.map_cons,List.map_nil,hEq];done) | (refine .inl fun pos af=>?_;(clear k1;dsimp only [Sig.oper];generalize c.eval=ρ at *;go_simp;done)) | (refine .inl fun pos af=>?_;clear k1;dsimp only [Sig.oper];generalize c.eval=ρ at *;go_simp;simp only [decide_eq_true_eq,decide_eq_false_iff_not] at *;omega))))
 exact below_zero
attribute [local go_sem] Oper.semAt_some
def sameTextsB (a b:List ByteArray):Bool:=!((a.length:Int) != (b.length:Int))&&textsB a b
def propsAlike  : List (ByteArray × Tree)→List (ByteArray × Tree)→Bool
 | [],_=>true
 | _::_,[]=>true
 | p::r,q::r'=>(p.1.toList==q.1.toList)&&(alikeT p.2 q.2&&propsAlike r r')
def samePropsB (a b:List (ByteArray × Tree)):Bool:=!((a.length:Int) != (b.length:Int))&&propsAlike a b
theorem propsAlike_at {ks ks':List (ByteArray × Tree)} {j:Nat} {x y:ByteArray × Tree} (h:ks[j]?=some x) (h':ks'[j]?=some y):propsAlike (ks.drop j) (ks'.drop j)=((x.1.toList==y.1.toList)&&(alikeT x.2 y.2&&propsAlike (ks.drop (j+1)) (ks'.drop (j+1)))):=by
 obtain ⟨hj,hx⟩:=List.getElem?_eq_some_iff.1 h
 obtain ⟨hj',hx'⟩:=List.getElem?_eq_some_iff.1 h'
 rw [List.drop_eq_getElem_cons hj,hx,List.drop_eq_getElem_cons hj',hx',propsAlike]
theorem sameTexts_any (ks ks':List ByteArray) (B:Nat) (ka ka2:Option Addr) (kc kc2:Nat) (w:World) (hB:B≤w.heap.size) (hk:KeysLie B w ka ks) (hk':KeysLie B w ka2 ks') (h1:ks.length≤kc) (h2:kc≤9223372036854775807) (g1:ks'.length≤kc2) (g2:kc2≤9223372036854775807) :
  Calls Tryz.prog 105 #[.slice ka ks.length kc,.slice ka2 ks'.length kc2] w fun e w'=>e=.returned (.bool (sameTextsB ks ks'))∧Below w.heap.size w w':=by
 have HKK:=hidE (And.intro hk hk')
 obtain ⟨res,hres⟩:∃ r,sameTextsB ks ks'=r:=⟨_,rfl⟩
 rw [hres]
 unfold sameTextsB at hres
 have HR:=hidE hres
 obtain ⟨n,hn⟩:∃ n,ks.length=n:=⟨_,rfl⟩
 obtain ⟨n2,hn2⟩:∃ n,ks'.length=n:=⟨_,rfl⟩
 have HN1:=hidE hn
 have HN2:=hidE hn2
 rw [hn] at h1
 rw [hn2] at g1
 rw [hn,hn2] at HR
 rw [hn,hn2]
 clear hk hk' hres hn hn2
 go_enter Tryz.func105,Tryz.ntmps105
 by_cases b5:((n:Int) != (n2:Int))=true
 ·have HF:Hid (res=false):=by
   show _=_
   rw [← HR.out,b5];rfl
  go_wp2_with fail
  go_ret
  exact ⟨by rw [HF.out];rfl,Below.refl _ _⟩
 ·have z5:((n:Int) != (n2:Int))=false:=by simpa using b5
  clear b5
  have HR2:Hid (textsB ks ks'=res):=by
   show _=_
   rw [← HR.out,z5];rfl
  have HEQ:Hid (n=n2):=by
   have a:=z5
   simp at a
   show _=_
   omega
  go_wp2_with fail
  clear HR z5
  obtain rfl:=HEQ.out
  clear HEQ
  go_loopw [5] (fun i wr=>∃ j:Nat,j≤n∧i=.int .i64 j∧Below w.heap.size w wr∧textsB (ks.drop j) (ks'.drop j)=res) (fun i _=>n - (intOf i).toNat)
  case atStart=>exact ⟨0,Nat.zero_le _,rfl,Below.refl _ _,HR2.out⟩
  case round =>
   obtain ⟨j,hj,rfl,hbr,hrs⟩:=hrel
   have HBR:=hidE hbr
   have HRS:=hidE hrs
   have hwz:w.heap.size≤wr.heap.size:=hbr.size
   clear hbr hrs
   by_cases hlt:j<n
   ·have hlt':(j:Int)<n:=by omega
    obtain ⟨xk,hx⟩:∃ q,ks[j]?=some q:=⟨_,List.getElem?_eq_getElem (by have:=HN1.out;omega)⟩
    obtain ⟨yk,hy⟩:∃ q,ks'[j]?=some q:=⟨_,List.getElem?_eq_getElem (by have:=HN2.out;omega)⟩
    obtain ⟨bl,off,rfl,hbl,hc⟩:=(HKK.out.1.below (HBR.out.mono hB)).resolve_left (by intro e;rw [e] at hx;simp at hx)
    obtain ⟨bl2,off2,rfl,hbl2,hc2⟩:=(HKK.out.2.below (HBR.out.mono hB)).resolve_left (by intro e;rw [e] at hy;simp at hy)
    have cx:=(hc j (by have:=HN1.out;omega)).1
    have cy:=(hc2 j (by have:=HN2.out;omega)).1
    rw [List.getD_eq_getElem?_getD,hx] at cx
    rw [List.getD_eq_getElem?_getD,hy] at cy
    simp only [Option.getD_some] at cx cy
    have hbw:bl<wr.heap.size:=by omega
    have hbw2:bl2<wr.heap.size:=by omega
    have HE:Hid (res=((xk.toList==yk.toList)&&textsB (ks.drop (j+1)) (ks'.drop (j+1)))):=by
     show _=_
     rw [← HRS.out,textsB_at hx hy]
    clear hx hy hc hc2
    go_upto_region 6 with fail
    show (Code.region 6 RST true).wp _ _ _ _
    obtain ⟨b,hb⟩:∃ b,(xk.toList==yk.toList)=b:=⟨_,rfl⟩
    cases b with
    | false =>
     have HA1:Hid ((!(xk.toList==yk.toList))=true):=by
      show _=_
      rw [hb];rfl
     have HA2:=hidE hb
     clear hb
     refine regionSTA bl off n kc bl2 off2 n kc2 j xk yk _ _ _ rfl ⟨rfl,rfl,rfl⟩ ?_ ?_
     ·intro W hW
      exact ⟨hlt,by omega,(hW.cell (p:=⟨bl,off+j,none⟩) hbw).trans cx,hlt,by omega,(hW.cell (p:=⟨bl2,off2+j,none⟩) hbw2).trans cy,HA1.out⟩
     intro c W3 hS hB3 e25
     rw [same_peek hS [17,18,19,20,21,22,23,24,25] (by kernel_rfl)]
     simp only [List.foldl_cons,List.foldl_nil,List.setIfInBounds_toArray,List.set_cons_succ,List.set_cons_zero,show peek c 25=_ from e25]
     clear e25 hS
     have HB3:=hidE (below_on HBR.out hB3)
     clear hB3
     have HF:Hid (res=false):=by
      show _=_
      rw [HE.out,HA2.out];rfl
     go_wp2_with fail
     go_ret
     exact ⟨by rw [HF.out];rfl,HB3.out⟩
    | true =>
     have HA1:Hid ((!(xk.toList==yk.toList))=false):=by
      show _=_
      rw [hb];rfl
     have HA2:=hidE hb
     clear hb
     refine regionSTB bl off n kc bl2 off2 n kc2 j xk yk _ _ _ rfl ⟨rfl,rfl,rfl⟩ ?_ ?_
     ·intro W hW
      exact ⟨hlt,by omega,(hW.cell (p:=⟨bl,off+j,none⟩) hbw).trans cx,hlt,by omega,(hW.cell (p:=⟨bl2,off2+j,none⟩) hbw2).trans cy,HA1.out⟩
     intro c W3 hS hB3 e25
     rw [same_peek hS [17,18,19,20,21,22,23,24,25] (by kernel_rfl)]
     simp only [List.foldl_cons,List.foldl_nil,List.setIfInBounds_toArray,List.set_cons_succ,List.set_cons_zero,show peek c 25=_ from e25]
     clear e25 hS
     have HB3:=hidE (below_on HBR.out hB3)
     clear hB3
     have HN2:Hid (textsB (ks.drop (j+1)) (ks'.drop (j+1))=res):=by
      show _=_
      rw [HE.out,HA2.out];rfl
     go_wp2_with fail
     go_roundw
     case rel=>exact ⟨j+1,by omega,by go_num,HB3.out,HN2.out⟩
     case measure=>simp [intOf];omega
   ·have HF:Hid (res=true):=by
     show _=_
     rw [← HRS.out,List.drop_of_length_le (by have:=HN1.out;omega)];rfl
    have hlt':¬ (j:Int)<n:=by omega
    go_wp2_with fail
    go_ret
    exact ⟨by rw [HF.out];rfl,HBR.out⟩
theorem sameProps_any (ks ks':List (ByteArray × Tree)) (B:Nat) (ka ka2:Option Addr) (kc kc2:Nat) (w:World) (hB:B≤w.heap.size) (hk:PropsLie B w (.slice ka ks.length kc) ks) (hk':PropsLie B w (.slice ka2 ks'.length kc2) ks') :
  Calls Tryz.prog 106 #[.slice ka ks.length kc,.slice ka2 ks'.length kc2] w fun e w'=>e=.returned (.bool (samePropsB ks ks'))∧Below w.heap.size w w':=by
 obtain ⟨a',c',e1,h1,h2,hp3⟩:=hk
 obtain ⟨rfl,rfl⟩:ka=a'∧kc=c':=by injection e1 with e1 _ e2;exact ⟨e1,e2⟩
 obtain ⟨a',c',e2,g1,g2,hq3⟩:=hk'
 obtain ⟨rfl,rfl⟩:ka2=a'∧kc2=c':=by injection e2 with e1 _ e2;exact ⟨e1,e2⟩
 have HKK:=hidE (And.intro hp3 hq3)
 have hk:=trivial
 have hk':=trivial
 clear hp3 hq3 e1 e2
 obtain ⟨res,hres⟩:∃ r,samePropsB ks ks'=r:=⟨_,rfl⟩
 rw [hres]
 unfold samePropsB at hres
 have HR:=hidE hres
 obtain ⟨n,hn⟩:∃ n,ks.length=n:=⟨_,rfl⟩
 obtain ⟨n2,hn2⟩:∃ n,ks'.length=n:=⟨_,rfl⟩
 have HN1:=hidE hn
 have HN2:=hidE hn2
 rw [hn] at h1
 rw [hn2] at g1
 rw [hn,hn2] at HR
 rw [hn,hn2]
 clear hk hk' hres hn hn2
 go_enter Tryz.func106,Tryz.ntmps106
 by_cases b5:((n:Int) != (n2:Int))=true
 ·have HF:Hid (res=false):=by
   show _=_
   rw [← HR.out,b5];rfl
  go_wp2_with fail
  go_ret
  exact ⟨by rw [HF.out];rfl,Below.refl _ _⟩
 ·have z5:((n:Int) != (n2:Int))=false:=by simpa using b5
  clear b5
  have HR2:Hid (propsAlike ks ks'=res):=by
   show _=_
   rw [← HR.out,z5];rfl
  have HEQ:Hid (n=n2):=by
   have a:=z5
   simp at a
   show _=_
   omega
  go_wp2_with fail
  clear HR z5
  obtain rfl:=HEQ.out
  clear HEQ
  go_loopw [5] (fun i wr=>∃ j:Nat,j≤n∧i=.int .i64 j∧Below w.heap.size w wr∧propsAlike (ks.drop j) (ks'.drop j)=res) (fun i _=>n - (intOf i).toNat)
  case atStart=>exact ⟨0,Nat.zero_le _,rfl,Below.refl _ _,HR2.out⟩
  case round =>
   obtain ⟨j,hj,rfl,hbr,hrs⟩:=hrel
   have HBR:=hidE hbr
   have HRS:=hidE hrs
   have hwz:w.heap.size≤wr.heap.size:=hbr.size
   clear hbr hrs
   by_cases hlt:j<n
   ·have hlt':(j:Int)<n:=by omega
    obtain ⟨⟨xk,T⟩,hx⟩:∃ q,ks[j]?=some q:=⟨_,List.getElem?_eq_getElem (by have:=HN1.out;omega)⟩
    obtain ⟨⟨yk,T'⟩,hy⟩:∃ q,ks'[j]?=some q:=⟨_,List.getElem?_eq_getElem (by have:=HN2.out;omega)⟩
    obtain ⟨bl,off,rfl,hbl,hc⟩:=HKK.out.1.resolve_left (by intro e;rw [e] at hx;simp at hx)
    obtain ⟨bl2,off2,rfl,hbl2,hc2⟩:=HKK.out.2.resolve_left (by intro e;rw [e] at hy;simp at hy)
    obtain ⟨cx,_,v0,v1,v2,v3,v4,v5,⟨c0,c1,c2,c3,c4,c5⟩,hv⟩:=(hc j _ hx).below (HBR.out.mono hB) hbl
    obtain ⟨cy,_,u0,u1,u2,u3,u4,u5,⟨d0,d1,d2,d3,d4,d5⟩,hu⟩:=(hc2 j _ hy).below (HBR.out.mono hB) hbl2
    simp only at cx cy hv hu
    have hbw:bl<wr.heap.size:=by omega
    have hbw2:bl2<wr.heap.size:=by omega
    have HK1:=hidE (fun W (hb:Below wr.heap.size wr W)=>alike_all T B _ _ T' W (by have:=hb.size;omega) (hv.below (hb.mono (by omega))) (hu.below (hb.mono (by omega))))
    obtain ⟨ba,hba⟩:∃ b,alikeT T T'=b:=⟨_,rfl⟩
    rw [hba] at HK1
    have HE:Hid (res=((xk.toList==yk.toList)&&(ba&&propsAlike (ks.drop (j+1)) (ks'.drop (j+1))))):=by
     show _=_
     rw [← HRS.out,propsAlike_at hx hy,hba]
    clear hx hy hc hc2 hv hu hba
    go_upto_region 6 with fail
    show (Code.region 6 RSP true).wp _ _ _ _
    obtain ⟨b,hb⟩:∃ b,(xk.toList==yk.toList)=b:=⟨_,rfl⟩
    cases b with
    | false =>
     have HA1:Hid ((!(xk.toList==yk.toList))=true):=by
      show _=_
      rw [hb];rfl
     have HA2:=hidE hb
     clear hb
     refine regionSPA bl off n kc bl2 off2 n kc2 j xk yk v0 v1 v2 v3 v4 v5 u0 u1 u2 u3 u4 u5 _ _ _ rfl ⟨rfl,rfl,rfl⟩ ?_ ?_
     ·intro W hW
      exact ⟨hlt,by omega,(hW.cell (p:=⟨bl,off+j*7,none⟩) hbw).trans cx,hlt,by omega,(hW.cell (p:=⟨bl2,off2+j*7,none⟩) hbw2).trans cy,HA1.out⟩
     intro c W3 hS hB3 e41
     rw [same_peek hS [17,18,19,20,21,22,23,24,25,26,27,28,29,30,31,32,33,34,35,36,37,38,39,40,41] (by kernel_rfl)]
     simp only [List.foldl_cons,List.foldl_nil,List.setIfInBounds_toArray,List.set_cons_succ,List.set_cons_zero,show peek c 41=_ from e41]
     clear e41 hS
     have HB3:=hidE (below_on HBR.out hB3)
     clear hB3
     have HF:Hid (res=false):=by
      show _=_
      rw [HE.out,HA2.out];rfl
     go_wp2_with fail
     go_ret
     exact ⟨by rw [HF.out];rfl,HB3.out⟩
    | true =>
     have HA1:Hid ((!(xk.toList==yk.toList))=false):=by
      show _=_
      rw [hb];rfl
     have HA2:=hidE hb
     clear hb
     cases ba with
     | false =>
      refine regionSPB bl off n kc bl2 off2 n kc2 j xk yk v0 v1 v2 v3 v4 v5 u0 u1 u2 u3 u4 u5 _ _ _ rfl ⟨rfl,rfl,rfl⟩ ?_ ?_
      ·intro W hW
       exact ⟨hlt,by omega,(hW.cell (p:=⟨bl,off+j*7,none⟩) hbw).trans cx,hlt,by omega,(hW.cell (p:=⟨bl2,off2+j*7,none⟩) hbw2).trans cy,HA1.out,(hW.cell (p:=⟨bl,off+j*7+1,none⟩) hbw).trans c0,(hW.cell (p:=⟨bl,off+j*7+2,none⟩) hbw).trans c1,(hW.cell (p:=⟨bl,off+j*7+3,none⟩) hbw).trans c2,(hW.cell (p:=⟨bl,off+j*7+4,none⟩) hbw).trans c3,(hW.cell (p:=⟨bl,off+j*7+5,none⟩) hbw).trans c4,(hW.cell (p:=⟨bl,off+j*7+6,none⟩) hbw).trans c5,(hW.cell (p:=⟨bl2,off2+j*7+1,none⟩) hbw2).trans d0,(hW.cell (p:=⟨bl2,off2+j*7+2,none⟩) hbw2).trans d1,(hW.cell (p:=⟨bl2,off2+j*7+3,none⟩) hbw2).trans d2,(hW.cell (p:=⟨bl2,off2+j*7+4,none⟩) hbw2).trans d3,(hW.cell (p:=⟨bl2,off2+j*7+5,none⟩) hbw2).trans d4,(hW.cell (p:=⟨bl2,off2+j*7+6,none⟩) hbw2).trans d5,HK1.out W hW⟩
      intro c W3 hS hB3 e41
      rw [same_peek hS [17,18,19,20,21,22,23,24,25,26,27,28,29,30,31,32,33,34,35,36,37,38,39,40,41] (by kernel_rfl)]
      simp only [List.foldl_cons,List.foldl_nil,List.setIfInBounds_toArray,List.set_cons_succ,List.set_cons_zero,show peek c 41=_ from e41]
      clear e41 hS
      have HB3:=hidE (below_on HBR.out hB3)
      clear hB3
      have HF:Hid (res=false):=by
       show _=_
       rw [HE.out,HA2.out];rfl
      go_wp2_with fail
      go_ret
      exact ⟨by rw [HF.out];rfl,HB3.out⟩
     | true =>
      refine regionSPC bl off n kc bl2 off2 n kc2 j xk yk v0 v1 v2 v3 v4 v5 u0 u1 u2 u3 u4 u5 _ _ _ rfl ⟨rfl,rfl,rfl⟩ ?_ ?_
      ·intro W hW
       exact ⟨hlt,by omega,(hW.cell (p:=⟨bl,off+j*7,none⟩) hbw).trans cx,hlt,by omega,(hW.cell (p:=⟨bl2,off2+j*7,none⟩) hbw2).trans cy,HA1.out,(hW.cell (p:=⟨bl,off+j*7+1,none⟩) hbw).trans c0,(hW.cell (p:=⟨bl,off+j*7+2,none⟩) hbw).trans c1,(hW.cell (p:=⟨bl,off+j*7+3,none⟩) hbw).trans c2,(hW.cell (p:=⟨bl,off+j*7+4,none⟩) hbw).trans c3,(hW.cell (p:=⟨bl,off+j*7+5,none⟩) hbw).trans c4,(hW.cell (p:=⟨bl,off+j*7+6,none⟩) hbw).trans c5,(hW.cell (p:=⟨bl2,off2+j*7+1,none⟩) hbw2).trans d0,(hW.cell (p:=⟨bl2,off2+j*7+2,none⟩) hbw2).trans d1,(hW.cell (p:=⟨bl2,off2+j*7+3,none⟩) hbw2).trans d2,(hW.cell (p:=⟨bl2,off2+j*7+4,none⟩) hbw2).trans d3,(hW.cell (p:=⟨bl2,off2+j*7+5,none⟩) hbw2).trans d4,(hW.cell (p:=⟨bl2,off2+j*7+6,none⟩) hbw2).trans d5,HK1.out W hW⟩
      intro c W3 hS hB3 e41
      rw [same_peek hS [17,18,19,20,21,22,23,24,25,26,27,28,29,30,31,32,33,34,35,36,37,38,39,40,41] (by kernel_rfl)]
      simp only [List.foldl_cons,List.foldl_nil,List.setIfInBounds_toArray,List.set_cons_succ,List.set_cons_zero,show peek c 41=_ from e41]
      clear e41 hS
      have HB3:=hidE (below_on HBR.out hB3)
      clear hB3
      have HN2:Hid (propsAlike (ks.drop (j+1)) (ks'.drop (j+1))=res):=by
       show _=_
       rw [HE.out,HA2.out];rfl
      go_wp2_with fail
      go_roundw
      case rel=>exact ⟨j+1,by omega,by go_num,HB3.out,HN2.out⟩
      case measure=>simp [intOf];omega
   ·have HF:Hid (res=true):=by
     show _=_
     rw [← HRS.out,List.drop_of_length_le (by have:=HN1.out;omega)];rfl
    have hlt':¬ (j:Int)<n:=by omega
    go_wp2_with fail
    go_ret
    exact ⟨by rw [HF.out];rfl,HBR.out⟩
end Go.Proofs.YteddjlbfbpecjaaGreatDoor
