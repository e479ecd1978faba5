/- The same texts, the same properties: the document's word. -/
import Derived.Test.YteddjlbfbpecjaaGreatDoorJoin2
import Derived.Test.YteddjlbfbpecjaaGreatDoorJoin17
import Derived.Test.YteddjlbfbpecjaaGreatDoorJoin16
namespace Go.Proofs.YteddjlbfbpecjaaGreatDoor
section
open Go.RowKit Go.Shelf Go.WideShapes
set_option maxHeartbeats 8000000
set_option maxRecDepth 100000
set_option linter.all false
noncomputable def RST  : Array Oper:=Jg Tryz.f105 6
def LST  : List Sig:=[⟨17,.move (.tmp 0),44,none⟩,⟨18,.move (.tmp 5),3,none⟩,⟨19,.indexAddr 44 (.tmp 17) (.tmp 18),0,none⟩,⟨20,.load 9 (.tmp 19),9,none⟩,⟨21,.move (.tmp 1),44,none⟩,⟨22,.move (.tmp 5),3,none⟩,⟨23,.indexAddr 44 (.tmp 21) (.tmp 22),0,none⟩,⟨24,.load 9 (.tmp 23),9,none⟩,⟨25,.binOp .neq 9 (.tmp 20) (.tmp 24) 9,4,none⟩]
theorem Jgi  : Jq RST=LST.map some:=by kernel_rfl
def AST  : List (List Nat):=[[],[],[0,1],[2],[],[],[4,5],[6],[3,7]]
structure Zpk (bl off kl kc bl2 off2 kl2 kc2 j:Nat) (x y:ByteArray) (c:Act):Prop where
 t0:c.eval (.tmp 0)=.slice (some ⟨bl,off,none⟩) kl kc
 t1:c.eval (.tmp 1)=.slice (some ⟨bl2,off2,none⟩) kl2 kc2
 t5:c.eval (.tmp 5)=.int .i64 (j:Int)
def Jgj (bl off kl kc bl2 off2 kl2 kc2 j:Nat) (x y:ByteArray):List Value:=[.slice (some ⟨bl,off,none⟩) kl kc,.int .i64 (j:Int),.pointer (some ⟨bl,off+j,none⟩),.string x,.slice (some ⟨bl2,off2,none⟩) kl2 kc2,.int .i64 (j:Int),.pointer (some ⟨bl2,off2+j,none⟩),.string y,.bool true]
structure Zpl (bl off kl kc bl2 off2 kl2 kc2 j:Nat) (x y:ByteArray) (w:World):Prop where
 lt:j<kl
 le:kl≤9223372036854775807
 cx:w.cell? ⟨bl,off+j,none⟩=some (.string x)
 lt2:j<kl2
 le2:kl2≤9223372036854775807
 cy:w.cell? ⟨bl2,off2+j,none⟩=some (.string y)
 a1:(!(x.toList==y.toList))=true
theorem Zut (bl off kl kc bl2 off2 kl2 kc2 j:Nat) (x y:ByteArray) (Q:Exit→Act→World→Prop) (base:Act) (w0:World) (hsz:base.tmps.size=26) (hb:Zpk bl off kl kc bl2 off2 kl2 kc2 j x y base)
  (hW:∀ w,Below w0.heap.size w0 w→Zpl bl off kl kc bl2 off2 kl2 kc2 j x y w) (hQ:∀ c w,Zae RST base c→Below w0.heap.size w0 w→c.eval (.tmp 25)=.bool true→Q .normal c w):(Code.region 6 RST true).wp Tryz.prog Q base w0:=by
 refine Zr (B:=Zpk bl off kl kc bl2 off2 kl2 kc2 j x y) (T:=Zpl bl off kl kc bl2 off2 kl2 kc2 j x y) (n:=9) (k:=8) LST AST (Jgj bl off kl kc bl2 off2 kl2 kc2 j x y) Jgi rfl (by kernel_rfl) (by kernel_rfl) (by kernel_rfl) (by rw [hsz];kernel_rfl) (fun c hS=>⟨(Zc hS (by kernel_rfl)).trans hb.t0,(Zc hS (by kernel_rfl)).trans hb.t1,(Zc hS (by kernel_rfl)).trans hb.t5⟩) hW ?_ (by decide) rfl rfl hQ
 clear hsz hb hW hQ
 iterate 9 (refine Zd ?_ (by
  intro c w hb hW hEq
  obtain ⟨t0,t1,t5⟩:=hb
  obtain ⟨lt,le,cx,lt2,le2,cy,a1⟩:=hW
  have ec:=evc c
  have ef:=evf c
  dsimp only [AST,LST,Jgj,nth,Zcm,Zbd,Jl] at hEq ⊢
  first
  | exact ⟨by first | exact hEq.1 | exact hEq.2.1 | exact hEq.2.2.1 | exact hEq.2.2.2.1,.inr ⟨by first | exact .inl rfl | exact .inr rfl,rfl⟩⟩
  | ((try refine ⟨by first | exact hEq.1 | exact hEq.2.1 | exact hEq.2.2.1 | exact hEq.2.2.2.1,.inl ⟨rfl,?_⟩⟩);first | (refine .inl fun pos af=>?_;(dsimp only [Sig.oper];generalize c.eval=ρ at *;go_simp;done)) | (refine .inl fun pos af=>?_;dsimp only [Sig.oper];generalize c.eval=ρ at *;go_simp;simp only [decide_eq_true_eq,decide_eq_false_iff_not] at *;omega))))
 exact Zj
def Jgk (bl off kl kc bl2 off2 kl2 kc2 j:Nat) (x y:ByteArray):List Value:=[.slice (some ⟨bl,off,none⟩) kl kc,.int .i64 (j:Int),.pointer (some ⟨bl,off+j,none⟩),.string x,.slice (some ⟨bl2,off2,none⟩) kl2 kc2,.int .i64 (j:Int),.pointer (some ⟨bl2,off2+j,none⟩),.string y,.bool false]
structure Zpm (bl off kl kc bl2 off2 kl2 kc2 j:Nat) (x y:ByteArray) (w:World):Prop where
 lt:j<kl
 le:kl≤9223372036854775807
 cx:w.cell? ⟨bl,off+j,none⟩=some (.string x)
 lt2:j<kl2
 le2:kl2≤9223372036854775807
 cy:w.cell? ⟨bl2,off2+j,none⟩=some (.string y)
 a1:(!(x.toList==y.toList))=false
theorem Zuu (bl off kl kc bl2 off2 kl2 kc2 j:Nat) (x y:ByteArray) (Q:Exit→Act→World→Prop) (base:Act) (w0:World) (hsz:base.tmps.size=26) (hb:Zpk bl off kl kc bl2 off2 kl2 kc2 j x y base)
  (hW:∀ w,Below w0.heap.size w0 w→Zpm bl off kl kc bl2 off2 kl2 kc2 j x y w) (hQ:∀ c w,Zae RST base c→Below w0.heap.size w0 w→c.eval (.tmp 25)=.bool false→Q .normal c w):(Code.region 6 RST true).wp Tryz.prog Q base w0:=by
 refine Zr (B:=Zpk bl off kl kc bl2 off2 kl2 kc2 j x y) (T:=Zpm bl off kl kc bl2 off2 kl2 kc2 j x y) (n:=9) (k:=8) LST AST (Jgk bl off kl kc bl2 off2 kl2 kc2 j x y) Jgi rfl (by kernel_rfl) (by kernel_rfl) (by kernel_rfl) (by rw [hsz];kernel_rfl) (fun c hS=>⟨(Zc hS (by kernel_rfl)).trans hb.t0,(Zc hS (by kernel_rfl)).trans hb.t1,(Zc hS (by kernel_rfl)).trans hb.t5⟩) hW ?_ (by decide) rfl rfl hQ
 clear hsz hb hW hQ
 iterate 9 (refine Zd ?_ (by
  intro c w hb hW hEq
  obtain ⟨t0,t1,t5⟩:=hb
  obtain ⟨lt,le,cx,lt2,le2,cy,a1⟩:=hW
  have ec:=evc c
  have ef:=evf c
  dsimp only [AST,LST,Jgk,nth,Zcm,Zbd,Jl] at hEq ⊢
  first
  | exact ⟨by first | exact hEq.1 | exact hEq.2.1 | exact hEq.2.2.1 | exact hEq.2.2.2.1,.inr ⟨by first | exact .inl rfl | exact .inr rfl,rfl⟩⟩
  | ((try refine ⟨by first | exact hEq.1 | exact hEq.2.1 | exact hEq.2.2.1 | exact hEq.2.2.2.1,.inl ⟨rfl,?_⟩⟩);first | (refine .inl fun pos af=>?_;(dsimp only [Sig.oper];generalize c.eval=ρ at *;go_simp;done)) | (refine .inl fun pos af=>?_;dsimp only [Sig.oper];generalize c.eval=ρ at *;go_simp;simp only [decide_eq_true_eq,decide_eq_false_iff_not] at *;omega))))
 exact Zj
noncomputable def RSP  : Array Oper:=Jg Tryz.f106 6
def LSP  : List Sig:=[⟨17,.move (.tmp 0),45,none⟩,⟨18,.move (.tmp 5),3,none⟩,⟨19,.indexAddr 45 (.tmp 17) (.tmp 18),0,none⟩,⟨20,.fieldAddr 79 (.tmp 19) 0,0,none⟩,⟨21,.load 9 (.tmp 20),9,none⟩,⟨22,.move (.tmp 1),45,none⟩,⟨23,.move (.tmp 5),3,none⟩,⟨24,.indexAddr 45 (.tmp 22) (.tmp 23),0,none⟩,⟨25,.fieldAddr 79 (.tmp 24) 0,0,none⟩,⟨26,.load 9 (.tmp 25),9,none⟩,⟨27,.binOp .neq 9 (.tmp 21) (.tmp 26) 9,4,none⟩,⟨28,.move (.tmp 27),4,none⟩,⟨29,.move (.tmp 0),45,some (11,false)⟩,⟨30,.move (.tmp 5),3,some (11,false)⟩,⟨31,.indexAddr 45 (.tmp 29) (.tmp 30),0,some (11,false)⟩,⟨32,.fieldAddr 79 (.tmp 31) 1,0,some (11,false)⟩,⟨33,.load 60 (.tmp 32),60,some (11,false)⟩,⟨34,.move (.tmp 1),45,some (11,false)⟩,⟨35,.move (.tmp 5),3,some (11,false)⟩,⟨36,.indexAddr 45 (.tmp 34) (.tmp 35),0,some (11,false)⟩,⟨37,.fieldAddr 79 (.tmp 36) 1,0,some (11,false)⟩,⟨38,.load 60 (.tmp 37),60,some (11,false)⟩,⟨39,.call { callee:=.value (.func 151),args:=#[.tmp 33,.tmp 38],argTypes:=#[60,60] },4,some (11,false)⟩,⟨40,.unOp .not 4 (.tmp 39),4,some (11,false)⟩,⟨41,.pick (.tmp 28) (.const (.bool true)) (.tmp 40),4,none⟩]
theorem Jfo  : Jq RSP=LSP.map some:=by kernel_rfl
def ASP  : List (List Nat):=[[],[],[0,1],[2],[3],[],[],[5,6],[7],[8],[4,9],[10],[11],[11],[11,12,13],[11,14],[11,15],[11],[11],[11,17,18],[11,19],[11,20],[11,16,21],[11,22],[11,23]]
structure Zjl (bl off kl kc bl2 off2 kl2 kc2 j:Nat) (x y:ByteArray) (v0 v1 v2 v3 v4 v5 u0 u1 u2 u3 u4 u5:Value) (c:Act):Prop where
 t0:c.eval (.tmp 0)=.slice (some ⟨bl,off,none⟩) kl kc
 t1:c.eval (.tmp 1)=.slice (some ⟨bl2,off2,none⟩) kl2 kc2
 t5:c.eval (.tmp 5)=.int .i64 (j:Int)
def Jgl (bl off kl kc bl2 off2 kl2 kc2 j:Nat) (x y:ByteArray) (v0 v1 v2 v3 v4 v5 u0 u1 u2 u3 u4 u5:Value):List Value:=[.slice (some ⟨bl,off,none⟩) kl kc,.int .i64 (j:Int),.pointer (some ⟨bl,off+j*7,none⟩),.pointer (some ⟨bl,off+j*7,none⟩),.string x,.slice (some ⟨bl2,off2,none⟩) kl2 kc2,.int .i64 (j:Int),.pointer (some ⟨bl2,off2+j*7,none⟩),.pointer (some ⟨bl2,off2+j*7,none⟩),.string y,.bool true,.bool true,undef,undef,undef,undef,undef,undef,undef,undef,undef,undef,undef,undef,.bool true]
structure Zpn (bl off kl kc bl2 off2 kl2 kc2 j:Nat) (x y:ByteArray) (v0 v1 v2 v3 v4 v5 u0 u1 u2 u3 u4 u5:Value) (w:World):Prop where
 lt:j<kl
 le:kl≤9223372036854775807
 cx:w.cell? ⟨bl,off+j*7,none⟩=some (.string x)
 lt2:j<kl2
 le2:kl2≤9223372036854775807
 cy:w.cell? ⟨bl2,off2+j*7,none⟩=some (.string y)
 a1:(!(x.toList==y.toList))=true
theorem Zuv (bl off kl kc bl2 off2 kl2 kc2 j:Nat) (x y:ByteArray) (v0 v1 v2 v3 v4 v5 u0 u1 u2 u3 u4 u5:Value) (Q:Exit→Act→World→Prop) (base:Act) (w0:World) (hsz:base.tmps.size=42) (hb:Zjl bl off kl kc bl2 off2 kl2 kc2 j x y v0 v1 v2 v3 v4 v5 u0 u1 u2 u3 u4 u5 base)
  (hW:∀ w,Below w0.heap.size w0 w→Zpn bl off kl kc bl2 off2 kl2 kc2 j x y v0 v1 v2 v3 v4 v5 u0 u1 u2 u3 u4 u5 w) (hQ:∀ c w,Zae RSP base c→Below w0.heap.size w0 w→c.eval (.tmp 41)=.bool true→Q .normal c w):(Code.region 6 RSP true).wp Tryz.prog Q base w0:=by
 refine Zr (B:=Zjl bl off kl kc bl2 off2 kl2 kc2 j x y v0 v1 v2 v3 v4 v5 u0 u1 u2 u3 u4 u5) (T:=Zpn bl off kl kc bl2 off2 kl2 kc2 j x y v0 v1 v2 v3 v4 v5 u0 u1 u2 u3 u4 u5) (n:=25) (k:=24) LSP ASP (Jgl bl off kl kc bl2 off2 kl2 kc2 j x y v0 v1 v2 v3 v4 v5 u0 u1 u2 u3 u4 u5) Jfo rfl (by kernel_rfl) (by kernel_rfl) (by kernel_rfl) (by rw [hsz];kernel_rfl) (fun c hS=>⟨(Zc hS (by kernel_rfl)).trans hb.t0,(Zc hS (by kernel_rfl)).trans hb.t1,(Zc hS (by kernel_rfl)).trans hb.t5⟩) hW ?_ (by decide) rfl rfl hQ
 clear hsz hb hW hQ
 iterate 25 (refine Zd ?_ (by
  intro c w hb hW hEq
  obtain ⟨t0,t1,t5⟩:=hb
  obtain ⟨lt,le,cx,lt2,le2,cy,a1⟩:=hW
  have ec:=evc c
  have ef:=evf c
  dsimp only [ASP,LSP,Jgl,nth,Zcm,Zbd,Jl] at hEq ⊢
  first
  | exact ⟨by first | exact hEq.1 | exact hEq.2.1 | exact hEq.2.2.1 | exact hEq.2.2.2.1,.inr ⟨by first | exact .inl rfl | exact .inr rfl,rfl⟩⟩
  | ((try refine ⟨by first | exact hEq.1 | exact hEq.2.1 | exact hEq.2.2.1 | exact hEq.2.2.2.1,.inl ⟨rfl,?_⟩⟩);first | (refine .inl fun pos af=>?_;(dsimp only [Sig.oper];generalize c.eval=ρ at *;go_simp;done)) | (refine .inl fun pos af=>?_;dsimp only [Sig.oper];generalize c.eval=ρ at *;go_simp;simp only [decide_eq_true_eq,decide_eq_false_iff_not] at *;omega))))
 exact Zj
def Jgm (bl off kl kc bl2 off2 kl2 kc2 j:Nat) (x y:ByteArray) (v0 v1 v2 v3 v4 v5 u0 u1 u2 u3 u4 u5:Value):List Value:=[.slice (some ⟨bl,off,none⟩) kl kc,.int .i64 (j:Int),.pointer (some ⟨bl,off+j*7,none⟩),.pointer (some ⟨bl,off+j*7,none⟩),.string x,.slice (some ⟨bl2,off2,none⟩) kl2 kc2,.int .i64 (j:Int),.pointer (some ⟨bl2,off2+j*7,none⟩),.pointer (some ⟨bl2,off2+j*7,none⟩),.string y,.bool false,.bool false,.slice (some ⟨bl,off,none⟩) kl kc,.int .i64 (j:Int),.pointer (some ⟨bl,off+j*7,none⟩),.pointer (some ⟨bl,off+j*7+1,none⟩),.agg #[v0,v1,v2,v3,v4,v5],.slice (some ⟨bl2,off2,none⟩) kl2 kc2,.int .i64 (j:Int),.pointer (some ⟨bl2,off2+j*7,none⟩),.pointer (some ⟨bl2,off2+j*7+1,none⟩),.agg #[u0,u1,u2,u3,u4,u5],.bool false,.bool true,.bool true]
structure Zpo (bl off kl kc bl2 off2 kl2 kc2 j:Nat) (x y:ByteArray) (v0 v1 v2 v3 v4 v5 u0 u1 u2 u3 u4 u5:Value) (w:World):Prop where
 lt:j<kl
 le:kl≤9223372036854775807
 cx:w.cell? ⟨bl,off+j*7,none⟩=some (.string x)
 lt2:j<kl2
 le2:kl2≤9223372036854775807
 cy:w.cell? ⟨bl2,off2+j*7,none⟩=some (.string y)
 a1:(!(x.toList==y.toList))=false
 c0:w.cell? ⟨bl,off+j*7+1,none⟩=some (v0)
 c1:w.cell? ⟨bl,off+j*7+2,none⟩=some (v1)
 c2:w.cell? ⟨bl,off+j*7+3,none⟩=some (v2)
 c3:w.cell? ⟨bl,off+j*7+4,none⟩=some (v3)
 c4:w.cell? ⟨bl,off+j*7+5,none⟩=some (v4)
 c5:w.cell? ⟨bl,off+j*7+6,none⟩=some (v5)
 d0:w.cell? ⟨bl2,off2+j*7+1,none⟩=some (u0)
 d1:w.cell? ⟨bl2,off2+j*7+2,none⟩=some (u1)
 d2:w.cell? ⟨bl2,off2+j*7+3,none⟩=some (u2)
 d3:w.cell? ⟨bl2,off2+j*7+4,none⟩=some (u3)
 d4:w.cell? ⟨bl2,off2+j*7+5,none⟩=some (u4)
 d5:w.cell? ⟨bl2,off2+j*7+6,none⟩=some (u5)
 k1:Calls Tryz.prog 151 #[.agg #[v0,v1,v2,v3,v4,v5],.agg #[u0,u1,u2,u3,u4,u5]] w fun e w'=>e=.returned (.bool false)∧Below w.heap.size w w'
theorem Zuw (bl off kl kc bl2 off2 kl2 kc2 j:Nat) (x y:ByteArray) (v0 v1 v2 v3 v4 v5 u0 u1 u2 u3 u4 u5:Value) (Q:Exit→Act→World→Prop) (base:Act) (w0:World) (hsz:base.tmps.size=42) (hb:Zjl bl off kl kc bl2 off2 kl2 kc2 j x y v0 v1 v2 v3 v4 v5 u0 u1 u2 u3 u4 u5 base)
  (hW:∀ w,Below w0.heap.size w0 w→Zpo bl off kl kc bl2 off2 kl2 kc2 j x y v0 v1 v2 v3 v4 v5 u0 u1 u2 u3 u4 u5 w) (hQ:∀ c w,Zae RSP base c→Below w0.heap.size w0 w→c.eval (.tmp 41)=.bool true→Q .normal c w):(Code.region 6 RSP true).wp Tryz.prog Q base w0:=by
 refine Zr (B:=Zjl bl off kl kc bl2 off2 kl2 kc2 j x y v0 v1 v2 v3 v4 v5 u0 u1 u2 u3 u4 u5) (T:=Zpo bl off kl kc bl2 off2 kl2 kc2 j x y v0 v1 v2 v3 v4 v5 u0 u1 u2 u3 u4 u5) (n:=25) (k:=24) LSP ASP (Jgm bl off kl kc bl2 off2 kl2 kc2 j x y v0 v1 v2 v3 v4 v5 u0 u1 u2 u3 u4 u5) Jfo rfl (by kernel_rfl) (by kernel_rfl) (by kernel_rfl) (by rw [hsz];kernel_rfl) (fun c hS=>⟨(Zc hS (by kernel_rfl)).trans hb.t0,(Zc hS (by kernel_rfl)).trans hb.t1,(Zc hS (by kernel_rfl)).trans hb.t5⟩) hW ?_ (by decide) rfl rfl hQ
 clear hsz hb hW hQ
 iterate 25 (refine Zd ?_ (by
  intro c w hb hW hEq
  obtain ⟨t0,t1,t5⟩:=hb
  obtain ⟨lt,le,cx,lt2,le2,cy,a1,c0,c1,c2,c3,c4,c5,d0,d1,d2,d3,d4,d5,k1⟩:=hW
  have ec:=evc c
  have ef:=evf c
  dsimp only [ASP,LSP,Jgm,nth,Zcm,Zbd,Jl] at hEq ⊢
  first
  | exact ⟨by first | exact hEq.1 | exact hEq.2.1 | exact hEq.2.2.1 | exact hEq.2.2.2.1,.inr ⟨by first | exact .inl rfl | exact .inr rfl,rfl⟩⟩
  | ((try refine ⟨by first | exact hEq.1 | exact hEq.2.1 | exact hEq.2.2.1 | exact hEq.2.2.2.1,.inl ⟨rfl,?_⟩⟩);first | (refine Zm Tryz.call151 k1 ?_;simp only [List.map_toArray,List.map_cons,List.map_nil,hEq];done) | (refine .inl fun pos af=>?_;(clear k1;dsimp only [Sig.oper];generalize c.eval=ρ at *;go_simp;done)) | (refine .inl fun pos af=>?_;clear k1;dsimp only [Sig.oper];generalize c.eval=ρ at *;go_simp;simp only [decide_eq_true_eq,decide_eq_false_iff_not] at *;omega))))
 exact Zj
def Jgn (bl off kl kc bl2 off2 kl2 kc2 j:Nat) (x y:ByteArray) (v0 v1 v2 v3 v4 v5 u0 u1 u2 u3 u4 u5:Value):List Value:=[.slice (some ⟨bl,off,none⟩) kl kc,.int .i64 (j:Int),.pointer (some ⟨bl,off+j*7,none⟩),.pointer (some ⟨bl,off+j*7,none⟩),.string x,.slice (some ⟨bl2,off2,none⟩) kl2 kc2,.int .i64 (j:Int),.pointer (some ⟨bl2,off2+j*7,none⟩),.pointer (some ⟨bl2,off2+j*7,none⟩),.string y,.bool false,.bool false,.slice (some ⟨bl,off,none⟩) kl kc,.int .i64 (j:Int),.pointer (some ⟨bl,off+j*7,none⟩),.pointer (some ⟨bl,off+j*7+1,none⟩),.agg #[v0,v1,v2,v3,v4,v5],.slice (some ⟨bl2,off2,none⟩) kl2 kc2,.int .i64 (j:Int),.pointer (some ⟨bl2,off2+j*7,none⟩),.pointer (some ⟨bl2,off2+j*7+1,none⟩),.agg #[u0,u1,u2,u3,u4,u5],.bool true,.bool false,.bool false]
structure Zpp (bl off kl kc bl2 off2 kl2 kc2 j:Nat) (x y:ByteArray) (v0 v1 v2 v3 v4 v5 u0 u1 u2 u3 u4 u5:Value) (w:World):Prop where
 lt:j<kl
 le:kl≤9223372036854775807
 cx:w.cell? ⟨bl,off+j*7,none⟩=some (.string x)
 lt2:j<kl2
 le2:kl2≤9223372036854775807
 cy:w.cell? ⟨bl2,off2+j*7,none⟩=some (.string y)
 a1:(!(x.toList==y.toList))=false
 c0:w.cell? ⟨bl,off+j*7+1,none⟩=some (v0)
 c1:w.cell? ⟨bl,off+j*7+2,none⟩=some (v1)
 c2:w.cell? ⟨bl,off+j*7+3,none⟩=some (v2)
 c3:w.cell? ⟨bl,off+j*7+4,none⟩=some (v3)
 c4:w.cell? ⟨bl,off+j*7+5,none⟩=some (v4)
 c5:w.cell? ⟨bl,off+j*7+6,none⟩=some (v5)
 d0:w.cell? ⟨bl2,off2+j*7+1,none⟩=some (u0)
 d1:w.cell? ⟨bl2,off2+j*7+2,none⟩=some (u1)
 d2:w.cell? ⟨bl2,off2+j*7+3,none⟩=some (u2)
 d3:w.cell? ⟨bl2,off2+j*7+4,none⟩=some (u3)
 d4:w.cell? ⟨bl2,off2+j*7+5,none⟩=some (u4)
 d5:w.cell? ⟨bl2,off2+j*7+6,none⟩=some (u5)
 k1:Calls Tryz.prog 151 #[.agg #[v0,v1,v2,v3,v4,v5],.agg #[u0,u1,u2,u3,u4,u5]] w fun e w'=>e=.returned (.bool true)∧Below w.heap.size w w'
theorem Zux (bl off kl kc bl2 off2 kl2 kc2 j:Nat) (x y:ByteArray) (v0 v1 v2 v3 v4 v5 u0 u1 u2 u3 u4 u5:Value) (Q:Exit→Act→World→Prop) (base:Act) (w0:World) (hsz:base.tmps.size=42) (hb:Zjl bl off kl kc bl2 off2 kl2 kc2 j x y v0 v1 v2 v3 v4 v5 u0 u1 u2 u3 u4 u5 base)
  (hW:∀ w,Below w0.heap.size w0 w→Zpp bl off kl kc bl2 off2 kl2 kc2 j x y v0 v1 v2 v3 v4 v5 u0 u1 u2 u3 u4 u5 w) (hQ:∀ c w,Zae RSP base c→Below w0.heap.size w0 w→c.eval (.tmp 41)=.bool false→Q .normal c w):(Code.region 6 RSP true).wp Tryz.prog Q base w0:=by
 refine Zr (B:=Zjl bl off kl kc bl2 off2 kl2 kc2 j x y v0 v1 v2 v3 v4 v5 u0 u1 u2 u3 u4 u5) (T:=Zpp bl off kl kc bl2 off2 kl2 kc2 j x y v0 v1 v2 v3 v4 v5 u0 u1 u2 u3 u4 u5) (n:=25) (k:=24) LSP ASP (Jgn bl off kl kc bl2 off2 kl2 kc2 j x y v0 v1 v2 v3 v4 v5 u0 u1 u2 u3 u4 u5) Jfo rfl (by kernel_rfl) (by kernel_rfl) (by kernel_rfl) (by rw [hsz];kernel_rfl) (fun c hS=>⟨(Zc hS (by kernel_rfl)).trans hb.t0,(Zc hS (by kernel_rfl)).trans hb.t1,(Zc hS (by kernel_rfl)).trans hb.t5⟩) hW ?_ (by decide) rfl rfl hQ
 clear hsz hb hW hQ
 iterate 25 (refine Zd ?_ (by
  intro c w hb hW hEq
  obtain ⟨t0,t1,t5⟩:=hb
  obtain ⟨lt,le,cx,lt2,le2,cy,a1,c0,c1,c2,c3,c4,c5,d0,d1,d2,d3,d4,d5,k1⟩:=hW
  have ec:=evc c
  have ef:=evf c
  dsimp only [ASP,LSP,Jgn,nth,Zcm,Zbd,Jl] at hEq ⊢
  first
  | exact ⟨by first | exact hEq.1 | exact hEq.2.1 | exact hEq.2.2.1 | exact hEq.2.2.2.1,.inr ⟨by first | exact .inl rfl | exact .inr rfl,rfl⟩⟩
  | ((try refine ⟨by first | exact hEq.1 | exact hEq.2.1 | exact hEq.2.2.1 | exact hEq.2.2.2.1,.inl ⟨rfl,?_⟩⟩);first | (refine Zm Tryz.call151 k1 ?_;simp only [List.map_toArray,List.map_cons,List.map_nil,hEq];done) | (refine .inl fun pos af=>?_;(clear k1;dsimp only [Sig.oper];generalize c.eval=ρ at *;go_simp;done)) | (refine .inl fun pos af=>?_;clear k1;dsimp only [Sig.oper];generalize c.eval=ρ at *;go_simp;simp only [decide_eq_true_eq,decide_eq_false_iff_not] at *;omega))))
 exact Zj
attribute [local go_sem] Oper.semAt_some
def Zb1 (a b:List ByteArray):Bool:=!((a.length:Int) != (b.length:Int))&&Zck a b
def Zat  : List (ByteArray × Zk)→List (ByteArray × Zk)→Bool
 | [],_=>true
 | _::_,[]=>true
 | p::r,q::r'=>(p.1.toList==q.1.toList)&&(Zec p.2 q.2&&Zat r r')
def Za8 (a b:List (ByteArray × Zk)):Bool:=!((a.length:Int) != (b.length:Int))&&Zat a b
theorem Zkx {ks ks':List (ByteArray × Zk)} {j:Nat} {x y:ByteArray × Zk} (h:ks[j]?=some x) (h':ks'[j]?=some y):Zat (ks.drop j) (ks'.drop j)=((x.1.toList==y.1.toList)&&(Zec x.2 y.2&&Zat (ks.drop (j+1)) (ks'.drop (j+1)))):=by
 obtain ⟨hj,hx⟩:=List.getElem?_eq_some_iff.1 h
 obtain ⟨hj',hx'⟩:=List.getElem?_eq_some_iff.1 h'
 rw [List.drop_eq_getElem_cons hj,hx,List.drop_eq_getElem_cons hj',hx',Zat]
theorem Zky (ks ks':List ByteArray) (B:Nat) (ka ka2:Option Addr) (kc kc2:Nat) (w:World) (hB:B≤w.heap.size) (hk:Jv B w ka ks) (hk':Jv B w ka2 ks') (h1:ks.length≤kc) (h2:kc≤9223372036854775807) (g1:ks'.length≤kc2) (g2:kc2≤9223372036854775807) :
  Calls Tryz.prog 105 #[.slice ka ks.length kc,.slice ka2 ks'.length kc2] w fun e w'=>e=.returned (.bool (Zb1 ks ks'))∧Below w.heap.size w w':=by
 have HKK:=Zb (And.intro hk hk')
 obtain ⟨res,hres⟩:∃ r,Zb1 ks ks'=r:=⟨_,rfl⟩
 rw [hres]
 unfold Zb1 at hres
 have HR:=Zb hres
 obtain ⟨n,hn⟩:∃ n,ks.length=n:=⟨_,rfl⟩
 obtain ⟨n2,hn2⟩:∃ n,ks'.length=n:=⟨_,rfl⟩
 have HN1:=Zb hn
 have HN2:=Zb hn2
 rw [hn] at h1
 rw [hn2] at g1
 rw [hn,hn2] at HR
 rw [hn,hn2]
 clear hk hk' hres hn hn2
 go_enter Tryz.func105,Tryz.ntmps105
 by_cases b5:((n:Int) != (n2:Int))=true
 ·have HF:Hid (res=false):=by
   show _=_
   rw [← HR.out,b5];rfl
  go_wp2_with fail
  go_ret
  exact ⟨by rw [HF.out];rfl,Below.refl _ _⟩
 ·have z5:((n:Int) != (n2:Int))=false:=by simpa using b5
  clear b5
  have HR2:Hid (Zck ks ks'=res):=by
   show _=_
   rw [← HR.out,z5];rfl
  have HEQ:Hid (n=n2):=by
   have a:=z5
   simp at a
   show _=_
   omega
  go_wp2_with fail
  clear HR z5
  obtain rfl:=HEQ.out
  clear HEQ
  go_loopw [5] (fun i wr=>∃ j:Nat,j≤n∧i=.int .i64 j∧Below w.heap.size w wr∧Zck (ks.drop j) (ks'.drop j)=res) (fun i _=>n - (intOf i).toNat)
  case atStart=>exact ⟨0,Nat.zero_le _,rfl,Below.refl _ _,HR2.out⟩
  case round =>
   obtain ⟨j,hj,rfl,hbr,hrs⟩:=hrel
   have HBR:=Zb hbr
   have HRS:=Zb hrs
   have hwz:w.heap.size≤wr.heap.size:=hbr.size
   clear hbr hrs
   by_cases hlt:j<n
   ·have hlt':(j:Int)<n:=by omega
    obtain ⟨xk,hx⟩:∃ q,ks[j]?=some q:=⟨_,List.getElem?_eq_getElem (by have:=HN1.out;omega)⟩
    obtain ⟨yk,hy⟩:∃ q,ks'[j]?=some q:=⟨_,List.getElem?_eq_getElem (by have:=HN2.out;omega)⟩
    obtain ⟨bl,off,rfl,hbl,hc⟩:=(HKK.out.1.below (HBR.out.mono hB)).resolve_left (by intro e;rw [e] at hx;simp at hx)
    obtain ⟨bl2,off2,rfl,hbl2,hc2⟩:=(HKK.out.2.below (HBR.out.mono hB)).resolve_left (by intro e;rw [e] at hy;simp at hy)
    have cx:=(hc j (by have:=HN1.out;omega)).1
    have cy:=(hc2 j (by have:=HN2.out;omega)).1
    rw [List.getD_eq_getElem?_getD,hx] at cx
    rw [List.getD_eq_getElem?_getD,hy] at cy
    simp only [Option.getD_some] at cx cy
    have hbw:bl<wr.heap.size:=by omega
    have hbw2:bl2<wr.heap.size:=by omega
    have HE:Hid (res=((xk.toList==yk.toList)&&Zck (ks.drop (j+1)) (ks'.drop (j+1)))):=by
     show _=_
     rw [← HRS.out,Zme hx hy]
    clear hx hy hc hc2
    go_upto_region 6 with fail
    show (Code.region 6 RST true).wp _ _ _ _
    obtain ⟨b,hb⟩:∃ b,(xk.toList==yk.toList)=b:=⟨_,rfl⟩
    cases b with
    | false =>
     have HA1:Hid ((!(xk.toList==yk.toList))=true):=by
      show _=_
      rw [hb];rfl
     have HA2:=Zb hb
     clear hb
     refine Zut bl off n kc bl2 off2 n kc2 j xk yk _ _ _ rfl ⟨rfl,rfl,rfl⟩ ?_ ?_
     ·intro W hW
      exact ⟨hlt,by omega,(hW.cell (p:=⟨bl,off+j,none⟩) hbw).trans cx,hlt,by omega,(hW.cell (p:=⟨bl2,off2+j,none⟩) hbw2).trans cy,HA1.out⟩
     intro c W3 hS hB3 e25
     rw [Zs hS [17,18,19,20,21,22,23,24,25] (by kernel_rfl)]
     simp only [List.foldl_cons,List.foldl_nil,List.setIfInBounds_toArray,List.set_cons_succ,List.set_cons_zero,show Zcs c 25=_ from e25]
     clear e25 hS
     have HB3:=Zb (Za HBR.out hB3)
     clear hB3
     have HF:Hid (res=false):=by
      show _=_
      rw [HE.out,HA2.out];rfl
     go_wp2_with fail
     go_ret
     exact ⟨by rw [HF.out];rfl,HB3.out⟩
    | true =>
     have HA1:Hid ((!(xk.toList==yk.toList))=false):=by
      show _=_
      rw [hb];rfl
     have HA2:=Zb hb
     clear hb
     refine Zuu bl off n kc bl2 off2 n kc2 j xk yk _ _ _ rfl ⟨rfl,rfl,rfl⟩ ?_ ?_
     ·intro W hW
      exact ⟨hlt,by omega,(hW.cell (p:=⟨bl,off+j,none⟩) hbw).trans cx,hlt,by omega,(hW.cell (p:=⟨bl2,off2+j,none⟩) hbw2).trans cy,HA1.out⟩
     intro c W3 hS hB3 e25
     rw [Zs hS [17,18,19,20,21,22,23,24,25] (by kernel_rfl)]
     simp only [List.foldl_cons,List.foldl_nil,List.setIfInBounds_toArray,List.set_cons_succ,List.set_cons_zero,show Zcs c 25=_ from e25]
     clear e25 hS
     have HB3:=Zb (Za HBR.out hB3)
     clear hB3
     have HN2:Hid (Zck (ks.drop (j+1)) (ks'.drop (j+1))=res):=by
      show _=_
      rw [HE.out,HA2.out];rfl
     go_wp2_with fail
     go_roundw
     case rel=>exact ⟨j+1,by omega,by go_num,HB3.out,HN2.out⟩
     case measure=>simp [intOf];omega
   ·have HF:Hid (res=true):=by
     show _=_
     rw [← HRS.out,List.drop_of_length_le (by have:=HN1.out;omega)];rfl
    have hlt':¬ (j:Int)<n:=by omega
    go_wp2_with fail
    go_ret
    exact ⟨by rw [HF.out];rfl,HBR.out⟩
theorem Zf2 (ks ks':List (ByteArray × Zk)) (B:Nat) (ka ka2:Option Addr) (kc kc2:Nat) (w:World) (hB:B≤w.heap.size) (hk:Jh B w (.slice ka ks.length kc) ks) (hk':Jh B w (.slice ka2 ks'.length kc2) ks') :
  Calls Tryz.prog 106 #[.slice ka ks.length kc,.slice ka2 ks'.length kc2] w fun e w'=>e=.returned (.bool (Za8 ks ks'))∧Below w.heap.size w w':=by
 obtain ⟨a',c',e1,h1,h2,hp3⟩:=hk
 obtain ⟨rfl,rfl⟩:ka=a'∧kc=c':=by injection e1 with e1 _ e2;exact ⟨e1,e2⟩
 obtain ⟨a',c',e2,g1,g2,hq3⟩:=hk'
 obtain ⟨rfl,rfl⟩:ka2=a'∧kc2=c':=by injection e2 with e1 _ e2;exact ⟨e1,e2⟩
 have HKK:=Zb (And.intro hp3 hq3)
 have hk:=trivial
 have hk':=trivial
 clear hp3 hq3 e1 e2
 obtain ⟨res,hres⟩:∃ r,Za8 ks ks'=r:=⟨_,rfl⟩
 rw [hres]
 unfold Za8 at hres
 have HR:=Zb hres
 obtain ⟨n,hn⟩:∃ n,ks.length=n:=⟨_,rfl⟩
 obtain ⟨n2,hn2⟩:∃ n,ks'.length=n:=⟨_,rfl⟩
 have HN1:=Zb hn
 have HN2:=Zb hn2
 rw [hn] at h1
 rw [hn2] at g1
 rw [hn,hn2] at HR
 rw [hn,hn2]
 clear hk hk' hres hn hn2
 go_enter Tryz.func106,Tryz.ntmps106
 by_cases b5:((n:Int) != (n2:Int))=true
 ·have HF:Hid (res=false):=by
   show _=_
   rw [← HR.out,b5];rfl
  go_wp2_with fail
  go_ret
  exact ⟨by rw [HF.out];rfl,Below.refl _ _⟩
 ·have z5:((n:Int) != (n2:Int))=false:=by simpa using b5
  clear b5
  have HR2:Hid (Zat ks ks'=res):=by
   show _=_
   rw [← HR.out,z5];rfl
  have HEQ:Hid (n=n2):=by
   have a:=z5
   simp at a
   show _=_
   omega
  go_wp2_with fail
  clear HR z5
  obtain rfl:=HEQ.out
  clear HEQ
  go_loopw [5] (fun i wr=>∃ j:Nat,j≤n∧i=.int .i64 j∧Below w.heap.size w wr∧Zat (ks.drop j) (ks'.drop j)=res) (fun i _=>n - (intOf i).toNat)
  case atStart=>exact ⟨0,Nat.zero_le _,rfl,Below.refl _ _,HR2.out⟩
  case round =>
   obtain ⟨j,hj,rfl,hbr,hrs⟩:=hrel
   have HBR:=Zb hbr
   have HRS:=Zb hrs
   have hwz:w.heap.size≤wr.heap.size:=hbr.size
   clear hbr hrs
   by_cases hlt:j<n
   ·have hlt':(j:Int)<n:=by omega
    obtain ⟨⟨xk,T⟩,hx⟩:∃ q,ks[j]?=some q:=⟨_,List.getElem?_eq_getElem (by have:=HN1.out;omega)⟩
    obtain ⟨⟨yk,T'⟩,hy⟩:∃ q,ks'[j]?=some q:=⟨_,List.getElem?_eq_getElem (by have:=HN2.out;omega)⟩
    obtain ⟨bl,off,rfl,hbl,hc⟩:=HKK.out.1.resolve_left (by intro e;rw [e] at hx;simp at hx)
    obtain ⟨bl2,off2,rfl,hbl2,hc2⟩:=HKK.out.2.resolve_left (by intro e;rw [e] at hy;simp at hy)
    obtain ⟨cx,_,v0,v1,v2,v3,v4,v5,⟨c0,c1,c2,c3,c4,c5⟩,hv⟩:=(hc j _ hx).below (HBR.out.mono hB) hbl
    obtain ⟨cy,_,u0,u1,u2,u3,u4,u5,⟨d0,d1,d2,d3,d4,d5⟩,hu⟩:=(hc2 j _ hy).below (HBR.out.mono hB) hbl2
    simp only at cx cy hv hu
    have hbw:bl<wr.heap.size:=by omega
    have hbw2:bl2<wr.heap.size:=by omega
    have HK1:=Zb (fun W (hb:Below wr.heap.size wr W)=>Zuo T B _ _ T' W (by have:=hb.size;omega) (hv.below (hb.mono (by omega))) (hu.below (hb.mono (by omega))))
    obtain ⟨ba,hba⟩:∃ b,Zec T T'=b:=⟨_,rfl⟩
    rw [hba] at HK1
    have HE:Hid (res=((xk.toList==yk.toList)&&(ba&&Zat (ks.drop (j+1)) (ks'.drop (j+1))))):=by
     show _=_
     rw [← HRS.out,Zkx hx hy,hba]
    clear hx hy hc hc2 hv hu hba
    go_upto_region 6 with fail
    show (Code.region 6 RSP true).wp _ _ _ _
    obtain ⟨b,hb⟩:∃ b,(xk.toList==yk.toList)=b:=⟨_,rfl⟩
    cases b with
    | false =>
     have HA1:Hid ((!(xk.toList==yk.toList))=true):=by
      show _=_
      rw [hb];rfl
     have HA2:=Zb hb
     clear hb
     refine Zuv bl off n kc bl2 off2 n kc2 j xk yk v0 v1 v2 v3 v4 v5 u0 u1 u2 u3 u4 u5 _ _ _ rfl ⟨rfl,rfl,rfl⟩ ?_ ?_
     ·intro W hW
      exact ⟨hlt,by omega,(hW.cell (p:=⟨bl,off+j*7,none⟩) hbw).trans cx,hlt,by omega,(hW.cell (p:=⟨bl2,off2+j*7,none⟩) hbw2).trans cy,HA1.out⟩
     intro c W3 hS hB3 e41
     rw [Zs hS [17,18,19,20,21,22,23,24,25,26,27,28,29,30,31,32,33,34,35,36,37,38,39,40,41] (by kernel_rfl)]
     simp only [List.foldl_cons,List.foldl_nil,List.setIfInBounds_toArray,List.set_cons_succ,List.set_cons_zero,show Zcs c 41=_ from e41]
     clear e41 hS
     have HB3:=Zb (Za HBR.out hB3)
     clear hB3
     have HF:Hid (res=false):=by
      show _=_
      rw [HE.out,HA2.out];rfl
     go_wp2_with fail
     go_ret
     exact ⟨by rw [HF.out];rfl,HB3.out⟩
    | true =>
     have HA1:Hid ((!(xk.toList==yk.toList))=false):=by
      show _=_
      rw [hb];rfl
     have HA2:=Zb hb
     clear hb
     cases ba with
     | false =>
      refine Zuw bl off n kc bl2 off2 n kc2 j xk yk v0 v1 v2 v3 v4 v5 u0 u1 u2 u3 u4 u5 _ _ _ rfl ⟨rfl,rfl,rfl⟩ ?_ ?_
      ·intro W hW
       exact ⟨hlt,by omega,(hW.cell (p:=⟨bl,off+j*7,none⟩) hbw).trans cx,hlt,by omega,(hW.cell (p:=⟨bl2,off2+j*7,none⟩) hbw2).trans cy,HA1.out,(hW.cell (p:=⟨bl,off+j*7+1,none⟩) hbw).trans c0,(hW.cell (p:=⟨bl,off+j*7+2,none⟩) hbw).trans c1,(hW.cell (p:=⟨bl,off+j*7+3,none⟩) hbw).trans c2,(hW.cell (p:=⟨bl,off+j*7+4,none⟩) hbw).trans c3,(hW.cell (p:=⟨bl,off+j*7+5,none⟩) hbw).trans c4,(hW.cell (p:=⟨bl,off+j*7+6,none⟩) hbw).trans c5,(hW.cell (p:=⟨bl2,off2+j*7+1,none⟩) hbw2).trans d0,(hW.cell (p:=⟨bl2,off2+j*7+2,none⟩) hbw2).trans d1,(hW.cell (p:=⟨bl2,off2+j*7+3,none⟩) hbw2).trans d2,(hW.cell (p:=⟨bl2,off2+j*7+4,none⟩) hbw2).trans d3,(hW.cell (p:=⟨bl2,off2+j*7+5,none⟩) hbw2).trans d4,(hW.cell (p:=⟨bl2,off2+j*7+6,none⟩) hbw2).trans d5,HK1.out W hW⟩
      intro c W3 hS hB3 e41
      rw [Zs hS [17,18,19,20,21,22,23,24,25,26,27,28,29,30,31,32,33,34,35,36,37,38,39,40,41] (by kernel_rfl)]
      simp only [List.foldl_cons,List.foldl_nil,List.setIfInBounds_toArray,List.set_cons_succ,List.set_cons_zero,show Zcs c 41=_ from e41]
      clear e41 hS
      have HB3:=Zb (Za HBR.out hB3)
      clear hB3
      have HF:Hid (res=false):=by
       show _=_
       rw [HE.out,HA2.out];rfl
      go_wp2_with fail
      go_ret
      exact ⟨by rw [HF.out];rfl,HB3.out⟩
     | true =>
      refine Zux bl off n kc bl2 off2 n kc2 j xk yk v0 v1 v2 v3 v4 v5 u0 u1 u2 u3 u4 u5 _ _ _ rfl ⟨rfl,rfl,rfl⟩ ?_ ?_
      ·intro W hW
       exact ⟨hlt,by omega,(hW.cell (p:=⟨bl,off+j*7,none⟩) hbw).trans cx,hlt,by omega,(hW.cell (p:=⟨bl2,off2+j*7,none⟩) hbw2).trans cy,HA1.out,(hW.cell (p:=⟨bl,off+j*7+1,none⟩) hbw).trans c0,(hW.cell (p:=⟨bl,off+j*7+2,none⟩) hbw).trans c1,(hW.cell (p:=⟨bl,off+j*7+3,none⟩) hbw).trans c2,(hW.cell (p:=⟨bl,off+j*7+4,none⟩) hbw).trans c3,(hW.cell (p:=⟨bl,off+j*7+5,none⟩) hbw).trans c4,(hW.cell (p:=⟨bl,off+j*7+6,none⟩) hbw).trans c5,(hW.cell (p:=⟨bl2,off2+j*7+1,none⟩) hbw2).trans d0,(hW.cell (p:=⟨bl2,off2+j*7+2,none⟩) hbw2).trans d1,(hW.cell (p:=⟨bl2,off2+j*7+3,none⟩) hbw2).trans d2,(hW.cell (p:=⟨bl2,off2+j*7+4,none⟩) hbw2).trans d3,(hW.cell (p:=⟨bl2,off2+j*7+5,none⟩) hbw2).trans d4,(hW.cell (p:=⟨bl2,off2+j*7+6,none⟩) hbw2).trans d5,HK1.out W hW⟩
      intro c W3 hS hB3 e41
      rw [Zs hS [17,18,19,20,21,22,23,24,25,26,27,28,29,30,31,32,33,34,35,36,37,38,39,40,41] (by kernel_rfl)]
      simp only [List.foldl_cons,List.foldl_nil,List.setIfInBounds_toArray,List.set_cons_succ,List.set_cons_zero,show Zcs c 41=_ from e41]
      clear e41 hS
      have HB3:=Zb (Za HBR.out hB3)
      clear hB3
      have HN2:Hid (Zat (ks.drop (j+1)) (ks'.drop (j+1))=res):=by
       show _=_
       rw [HE.out,HA2.out];rfl
      go_wp2_with fail
      go_roundw
      case rel=>exact ⟨j+1,by omega,by go_num,HB3.out,HN2.out⟩
      case measure=>simp [intOf];omega
   ·have HF:Hid (res=true):=by
     show _=_
     rw [← HRS.out,List.drop_of_length_le (by have:=HN1.out;omega)];rfl
    have hlt':¬ (j:Int)<n:=by omega
    go_wp2_with fail
    go_ret
    exact ⟨by rw [HF.out];rfl,HBR.out⟩
end
section
open Go.RowKit Go.Shelf
set_option maxHeartbeats 8000000
set_option maxRecDepth 100000
set_option linter.all false
attribute [local go_sem] Oper.semAt_some
theorem Zhm {w w1:World} {A A':Array Value} {ty:TypeId} (hb:Below ((w.alloc (.cells A ty)).alloc (.cells A' ty)).heap.size ((w.alloc (.cells A ty)).alloc (.cells A' ty)) w1) :
  Below w.heap.size w w1∧(∀ i v,A[i]?=some v→w1.cell? ⟨w.heap.size,i,none⟩=some v)∧(∀ i v,A'[i]?=some v→w1.cell? ⟨w.heap.size+1,i,none⟩=some v):=by
 simp only [World.size_alloc] at hb
 refine ⟨(((Below.refl _ w).alloc (Nat.le_refl _) _).alloc (by simp) _).trans (hb.mono (by omega)),fun i v hi=>?_,fun i v hi=>?_⟩
 ·rw [hb.cell (p:=⟨w.heap.size,i,none⟩) (by show w.heap.size<_;omega),World.cell?_of_block (Below.heap_alloc _ _ _ (by simp))]
  exact Zaf _ _ _ _ _ hi
 ·rw [hb.cell (p:=⟨w.heap.size+1,i,none⟩) (by show w.heap.size+1<_;omega)]
  have:=Zaf (w.alloc (.cells A ty)) A' ty i v hi
  rwa [World.size_alloc] at this
def Zv (B:Nat) (w:World) (v:Value) (n:Zp):Prop:=∃ la lc pa pc,v=.agg #[.int .i64 n.id,.slice la n.labels.length lc,.slice pa n.props.length pc]∧(n.labels.length≤lc∧lc≤9223372036854775807)∧Jv B w la n.labels∧Jh B w (.slice pa n.props.length pc) n.props
def Jc (B:Nat) (w:World) (v:Value) (n:Jj):Prop:=∃ pa pc,v=.agg #[.int .i64 n.id,.int .i64 n.fr,.int .i64 n.tt,.string n.type,.slice pa n.props.length pc]∧Jh B w (.slice pa n.props.length pc) n.props
theorem Zv.below {B:Nat} {w w':World} (h:Below B w w') {v:Value} {n:Zp} (hn:Zv B w v n):Zv B w' v n:=by
 obtain ⟨la,lc,pa,pc,e,hs,hk,hp⟩:=hn
 exact ⟨la,lc,pa,pc,e,hs,hk.below h,hp.below h⟩
theorem Jc.below {B:Nat} {w w':World} (h:Below B w w') {v:Value} {n:Jj} (hn:Jc B w v n):Jc B w' v n:=by
 obtain ⟨pa,pc,e,hp⟩:=hn
 exact ⟨pa,pc,e,hp.below h⟩
theorem Zdv.lies {B:Nat} {w:World} {bl off:Nat} {n:Zp} (h:Zdv B w bl off n):∃ v0 v1 v2,(w.cell? ⟨bl,off,none⟩=some v0∧w.cell? ⟨bl,off+1,none⟩=some v1∧w.cell? ⟨bl,off+2,none⟩=some v2)∧Zv B w (.agg #[v0,v1,v2]) n:=by
 obtain ⟨la,lc,pv,hc,hs,hk,hp⟩:=h
 have hp2:=hp
 obtain ⟨pa,pc,rfl,_⟩:=hp
 exact ⟨_,_,_,hc,la,lc,pa,pc,rfl,hs,hk,hp2⟩
theorem Zg2.lies {B:Nat} {w:World} {bl off:Nat} {n:Jj} (h:Zg2 B w bl off n):∃ v0 v1 v2 v3 v4,(w.cell? ⟨bl,off,none⟩=some v0∧w.cell? ⟨bl,off+1,none⟩=some v1∧w.cell? ⟨bl,off+2,none⟩=some v2∧w.cell? ⟨bl,off+3,none⟩=some v3∧w.cell? ⟨bl,off+4,none⟩=some v4)∧Jc B w (.agg #[v0,v1,v2,v3,v4]) n:=by
 obtain ⟨pv,hc,hs,hp⟩:=h
 have hp2:=hp
 obtain ⟨pa,pc,rfl,_⟩:=hp
 exact ⟨_,_,_,_,_,hc,pa,pc,rfl,hp2⟩
def Zco (a b:Zp):Bool:=(a.id==b.id)&&(Zb1 a.labels b.labels&&Za8 a.props b.props)
def Zdk (a b:Jj):Bool:=(a.id==b.id)&&((a.fr==b.fr)&&((a.tt==b.tt)&&((a.type.toList==b.type.toList)&&Za8 a.props b.props)))
theorem Zli (a b:Zp) (B:Nat) (v v':Value) (w:World) (hB:B≤w.heap.size) (hv:Zv B w v a) (hv':Zv B w v' b):Calls Tryz.prog 45 #[v,v'] w fun e w'=>e=.returned (.bool (Zco a b))∧Below w.heap.size w w':=by
 obtain ⟨res,hres⟩:∃ r,Zco a b=r:=⟨_,rfl⟩
 rw [hres]
 unfold Zco at hres
 obtain ⟨la,lc,pa,pc,rfl,⟨h1,h2⟩,hk,hp⟩:=hv
 obtain ⟨la2,lc2,pa2,pc2,rfl,⟨g1,g2⟩,hk2,hp2⟩:=hv'
 have HK1:=Zb (fun W (hb:Below w.heap.size w W)=>Zky a.labels b.labels B la la2 lc lc2 W (by have:=hb.size;omega) (hk.below (hb.mono hB)) (hk2.below (hb.mono hB)) h1 h2 g1 g2)
 have HK2:=Zb (fun W (hb:Below w.heap.size w W)=>Zf2 a.props b.props B pa pa2 pc pc2 W (by have:=hb.size;omega) (hp.below (hb.mono hB)) (hp2.below (hb.mono hB)))
 obtain ⟨bt,hbt⟩:∃ x,Zb1 a.labels b.labels=x:=⟨_,rfl⟩
 obtain ⟨bp,hbp⟩:∃ x,Za8 a.props b.props=x:=⟨_,rfl⟩
 rw [hbt] at HK1
 rw [hbp] at HK2
 rw [hbt,hbp] at hres
 obtain ⟨xi,xl,xp⟩:=a
 obtain ⟨yi,yl,yp⟩:=b
 simp only at HK1 HK2 hres ⊢
 have HR:=Zb hres
 generalize xl.length=ll at *
 generalize yl.length=ll2 at *
 generalize xp.length=pl at *
 generalize yp.length=pl2 at *
 clear hk hk2 hp hp2 hbt hbp hres h1 h2 g1 g2
 obtain ⟨W1,hW1⟩:∃ W1,((w.alloc (.cells #[.int .i64 xi,.slice la ll lc,.slice pa pl pc] 47)).alloc (.cells #[.int .i64 yi,.slice la2 ll2 lc2,.slice pa2 pl2 pc2] 47))=W1:=⟨_,rfl⟩
 have HX:Hid (∀ W,Below W1.heap.size W1 W→Below w.heap.size w W∧(∀ i v,(#[.int .i64 xi,.slice la ll lc,.slice pa pl pc]:Array Value)[i]?=some v→W.cell? ⟨w.heap.size,i,none⟩=some v)∧(∀ i v,(#[.int .i64 yi,.slice la2 ll2 lc2,.slice pa2 pl2 pc2]:Array Value)[i]?=some v→W.cell? ⟨w.heap.size+1,i,none⟩=some v)):=fun W hb=>by
  rw [← hW1] at hb
  exact Zhm hb
 have HW1:=Zb hW1
 obtain ⟨hb1,g,h⟩:=HX.out W1 (Below.refl _ _)
 have q0:=g 0 _ rfl
 have q1:=g 1 _ rfl
 have w0:=h 0 _ rfl
 have w1:=h 1 _ rfl
 have HB1:=Zb hb1
 clear hW1 g h hb1
 go_enter Tryz.func45,Tryz.ntmps45
 go_upto_region 1 with fail
 rw [HW1.out]
 clear HW1
 by_cases a1:xi=yi
 ·have z1:(xi==yi)=true:=by simp [a1]
  clear a1
  go_wp2_with fail
  refine (HK1.out W1 HB1.out).mono ?_
  rintro e w2 ⟨rfl,hb2⟩
  obtain ⟨hbw,g,h⟩:=HX.out w2 hb2
  have q2:=g 2 _ rfl
  have w2':=h 2 _ rfl
  have HBW:=Zb hbw
  clear g h hbw hb2 q0 q1 w0 w1
  cases bt with
  | false =>
   have HF:Hid (res=false):=by
    show _=_
    rw [← HR.out,z1];rfl
   go_wp2_with fail
   go_ret
   exact ⟨by rw [HF.out];rfl,HBW.out⟩
  | true =>
   have HF:Hid (res=bp):=by
    show _=_
    rw [← HR.out,z1];rfl
   go_wp2_with fail
   refine (HK2.out w2 HBW.out).mono ?_
   rintro e w3 ⟨rfl,hb3⟩
   have HB3:=Zb (Za HBW.out hb3)
   clear hb3
   go_wp2_with fail
   go_ret
   exact ⟨by rw [HF.out];rfl,HB3.out⟩
 ·have z1:(xi==yi)=false:=by simp [a1]
  clear a1
  have HF:Hid (res=false):=by
   show _=_
   rw [← HR.out,z1];rfl
  go_wp2_with fail
  go_ret
  exact ⟨by rw [HF.out];rfl,HB1.out⟩
theorem Zm5 (a b:Jj) (B:Nat) (v v':Value) (w:World) (hB:B≤w.heap.size) (hv:Jc B w v a) (hv':Jc B w v' b):Calls Tryz.prog 46 #[v,v'] w fun e w'=>e=.returned (.bool (Zdk a b))∧Below w.heap.size w w':=by
 obtain ⟨res,hres⟩:∃ r,Zdk a b=r:=⟨_,rfl⟩
 rw [hres]
 unfold Zdk at hres
 obtain ⟨pa,pc,rfl,hp⟩:=hv
 obtain ⟨pa2,pc2,rfl,hp2⟩:=hv'
 have HK2:=Zb (fun W (hb:Below w.heap.size w W)=>Zf2 a.props b.props B pa pa2 pc pc2 W (by have:=hb.size;omega) (hp.below (hb.mono hB)) (hp2.below (hb.mono hB)))
 obtain ⟨bp,hbp⟩:∃ x,Za8 a.props b.props=x:=⟨_,rfl⟩
 rw [hbp] at HK2
 rw [hbp] at hres
 obtain ⟨xi,xf,xt,xs,xp⟩:=a
 obtain ⟨yi,yf,yt,ys,yp⟩:=b
 simp only at HK2 hres ⊢
 have HR:=Zb hres
 generalize xp.length=pl at *
 generalize yp.length=pl2 at *
 clear hp hp2 hbp hres
 obtain ⟨W1,hW1⟩:∃ W1,((w.alloc (.cells #[.int .i64 xi,.int .i64 xf,.int .i64 xt,.string xs,.slice pa pl pc] 49)).alloc (.cells #[.int .i64 yi,.int .i64 yf,.int .i64 yt,.string ys,.slice pa2 pl2 pc2] 49))=W1:=⟨_,rfl⟩
 have HW1:=Zb hW1
 obtain ⟨hb1,g,h⟩:Below w.heap.size w W1∧(∀ i v,(#[.int .i64 xi,.int .i64 xf,.int .i64 xt,.string xs,.slice pa pl pc]:Array Value)[i]?=some v→W1.cell? ⟨w.heap.size,i,none⟩=some v)∧(∀ i v,(#[.int .i64 yi,.int .i64 yf,.int .i64 yt,.string ys,.slice pa2 pl2 pc2]:Array Value)[i]?=some v→W1.cell? ⟨w.heap.size+1,i,none⟩=some v):=by
  rw [← hW1]
  exact Zhm (Below.refl _ _)
 have q0:=g 0 _ rfl
 have w0:=h 0 _ rfl
 have q1:=g 1 _ rfl
 have w1:=h 1 _ rfl
 have q2:=g 2 _ rfl
 have w2:=h 2 _ rfl
 have q3:=g 3 _ rfl
 have w3:=h 3 _ rfl
 have q4:=g 4 _ rfl
 have w4:=h 4 _ rfl
 have HB1:=Zb hb1
 clear hW1 g h hb1
 go_enter Tryz.func46,Tryz.ntmps46
 go_upto_region 1 with fail
 rw [HW1.out]
 clear HW1
 by_cases az1:(xi==yi)=false
 ·have z1:=az1
  have HF:Hid (res=false):=by
   show _=_
   rw [← HR.out,z1];rfl
  go_wp2_with fail
  go_ret
  exact ⟨by rw [HF.out];rfl,HB1.out⟩
 ·have z1:(xi==yi)=true:=by simpa using az1
  clear az1
  by_cases az2:(xf==yf)=false
  ·have z2:=az2
   have HF:Hid (res=false):=by
    show _=_
    rw [← HR.out,z1,z2];rfl
   go_wp2_with fail
   go_ret
   exact ⟨by rw [HF.out];rfl,HB1.out⟩
  ·have z2:(xf==yf)=true:=by simpa using az2
   clear az2
   by_cases az3:(xt==yt)=false
   ·have z3:=az3
    have HF:Hid (res=false):=by
     show _=_
     rw [← HR.out,z1,z2,z3];rfl
    go_wp2_with fail
    go_ret
    exact ⟨by rw [HF.out];rfl,HB1.out⟩
   ·have z3:(xt==yt)=true:=by simpa using az3
    clear az3
    by_cases az4:(xs.toList==ys.toList)=false
    ·have z4:=az4
     have HF:Hid (res=false):=by
      show _=_
      rw [← HR.out,z1,z2,z3,z4];rfl
     go_wp2_with fail
     go_ret
     exact ⟨by rw [HF.out];rfl,HB1.out⟩
    ·have z4:(xs.toList==ys.toList)=true:=by simpa using az4
     clear az4
     have HF:Hid (res=bp):=by
      show _=_
      rw [← HR.out,z1,z2,z3,z4];rfl
     go_wp2_with fail
     refine (HK2.out W1 HB1.out).mono ?_
     rintro e w3 ⟨rfl,hb3⟩
     have HB3:=Zb (Za HB1.out hb3)
     clear hb3
     go_wp2_with fail
     go_ret
     exact ⟨by rw [HF.out];rfl,HB3.out⟩
end
section
open Go.RowKit Go.Shelf
set_option linter.all false
attribute [local go_sem] Oper.semAt_some
def Zim (lo B:Nat) (w:World) (cs:List Value) (r:Jj):Prop:=∃ pv,cs=[.int .i64 r.id,.int .i64 r.fr,.int .i64 r.tt,.string r.type,pv]∧Zbw lo B w pv r.props
theorem Zk1 (lo:Nat):Jba lo (Zim lo) where
 keep:=fun hk ⟨pv,e,hp⟩=>⟨pv,e,hp.keep hk⟩
 mono:=fun hB ⟨pv,e,hp⟩=>⟨pv,e,hp.mono (Nat.le_refl _) hB⟩
def Zee (lo B:Nat) (w:World) (cs:List Value) (n:Zp):Prop:=∃ la lc pv,cs=[.int .i64 n.id,.slice la n.labels.length lc,pv]∧(n.labels.length≤lc∧lc≤maxLen)∧Zfh lo B w la n.labels∧Zbw lo B w pv n.props
theorem Zin (lo:Nat):Jba lo (Zee lo) where
 keep:=fun hk ⟨la,lc,pv,e,hs,h1,hp⟩=>⟨la,lc,pv,e,hs,h1.keep hk,hp.keep hk⟩
 mono:=fun hB ⟨la,lc,pv,e,hs,h1,hp⟩=>⟨la,lc,pv,e,hs,h1.mono (Nat.le_refl _) hB,hp.mono (Nat.le_refl _) hB⟩
set_option maxRecDepth 100000 in
set_option maxHeartbeats 4000000 in
theorem Zn9 (r:Jj) (v:Value) (B:Nat) (w:World) (hB:B≤w.heap.size) (hv:Jc B w v r) (hn:r.props.length≤2000000) (ht:∀ q ∈ r.props,q.2.total≤2000000) :
  Calls Tryz.prog 38 #[v] w fun e w'=>∃ cs,e=.returned (.agg cs.toArray)∧Zim w.heap.size w'.heap.size w' cs r∧Below w.heap.size w w':=by
 obtain ⟨pa,pc,rfl,hp⟩:=hv
 have HC0:=Zb (fun W (hb:Below w.heap.size w W)=>Ziv _ r.props B W (by have:=hb.size;omega) (hp.below (hb.mono hB)) hn ht)
 obtain ⟨xi,fr,tt,ty,xp⟩:=r
 simp only at HC0 ⊢
 obtain ⟨pl,hpl⟩:∃ n,xp.length=n:=⟨_,rfl⟩
 rw [hpl] at HC0 ⊢
 have HPL:=Zb hpl
 clear hp hn ht hpl
 go_enter Tryz.func38,Tryz.ntmps38
 go_upto_region 1 with fail
 generalize hW1:World.alloc _ _=W1
 have HB1:Hid (Below w.heap.size w W1):=by rw [← hW1];exact ((Below.refl _ _).alloc (Nat.le_refl _) _).alloc (by simp) _
 have HR1:Hid (Rec W1 w.heap.size #[.int .i64 xi,.int .i64 fr,.int .i64 tt,.string ty,.slice pa pl pc] 49):=by rw [← hW1];exact (Zl _ _ _).alloc _
 have HZ1:Hid (Rec W1 (w.heap.size+1) #[.int .i64 0,.int .i64 0,.int .i64 0,.string ⟨#[]⟩,.slice none 0 0] 49):=by
  have h:=Zl (w.alloc (.cells #[.int .i64 xi,.int .i64 fr,.int .i64 tt,.string ty,.slice pa pl pc] 49)) #[.int .i64 0,.int .i64 0,.int .i64 0,.string ⟨#[]⟩,.slice none 0 0] 49
  rw [World.size_alloc,hW1] at h
  exact h
 clear hW1
 have r4:=HR1.out.cell 4 rfl
 go_wp2_with fail
 refine (HC0.out W1 HB1.out).mono ?_
 rintro e w2 ⟨v2,rfl,hl,hb2⟩
 have HL:=Zb hl
 obtain ⟨pa',pc',rfl,_⟩:=hl
 have HB2:=Zb (Za HB1.out hb2)
 have HR2:=Zb (HR1.out.below hb2 HR1.out.lt)
 have HZ2:=Zb (HZ1.out.below hb2 HZ1.out.lt)
 have hs2:w.heap.size+2≤W1.heap.size:=by have:=HZ1.out.lt;omega
 clear hb2 r4 HR1 HZ1
 have r4:=HR2.out.cell 4 rfl
 have z4:=HR2.out.z 4
 go_upto_region 2 with fail
 generalize hW3:World.setCell _ _ _=W3
 have HR3:Hid (Rec W3 w.heap.size #[.int .i64 xi,.int .i64 fr,.int .i64 tt,.string ty,.slice pa' xp.length pc'] 49):=by
  rw [← hW3];exact HR2.out.set 4 _
 have HZ3:Hid (Rec W3 (w.heap.size+1) #[.int .i64 0,.int .i64 0,.int .i64 0,.string ⟨#[]⟩,.slice none 0 0] 49):=by
  rw [← hW3];exact HZ2.out.other (by omega)
 have HB3:Hid (Below w.heap.size w W3):=by rw [← hW3];exact HB2.out.setCell (p:=⟨w.heap.size,4,none⟩) (Nat.le_refl _) _
 have hs3:W3.heap.size=w2.heap.size:=by rw [← hW3];simp
 have HF3:Hid (Zbw W1.heap.size W3.heap.size W3 (.slice pa' xp.length pc') xp):=by
  show Zbw _ _ _ _ _
  rw [hs3]
  refine HL.out.keep fun b o h1 h2=>?_
  have hne:w.heap.size≠b:=by omega
  have e:W3.heap[b]?=w2.heap[b]?:=by rw [← hW3,Below.heap_setCell _ _ _ _ (Ne.symm hne)]
  exact ⟨World.cell?_of_block e,by unfold World.frozen?;rw [e]⟩
 clear hW3 r4 z4
 have r0:=HR3.out.cell 0 rfl
 have r1:=HR3.out.cell 1 rfl
 have r2:=HR3.out.cell 2 rfl
 have r3:=HR3.out.cell 3 rfl
 have r4:=HR3.out.cell 4 rfl
 have q0:=HZ3.out.cell 0 rfl
 have z0:=HZ3.out.z 0
 have q1:=HZ3.out.cell 1 rfl
 have z1:=HZ3.out.z 1
 have q2:=HZ3.out.cell 2 rfl
 have z2:=HZ3.out.z 2
 have q3:=HZ3.out.cell 3 rfl
 have z3:=HZ3.out.z 3
 have q4:=HZ3.out.cell 4 rfl
 have z4:=HZ3.out.z 4
 go_wp2_with fail
 generalize hW4:World.setCell _ _ _=W4
 have HR4:Hid (Rec W4 (w.heap.size+1) #[.int .i64 xi,.int .i64 fr,.int .i64 tt,.string ty,.slice pa' xp.length pc'] 49):=by
  rw [← hW4]
  exact (((((HZ3.out.set 0 _).set 1 _).set 2 _).set 3 _).set 4 _)
 have HB4:Hid (Below w.heap.size w W4):=by
  rw [← hW4]
  exact (((((HB3.out.setCell (p:=⟨w.heap.size+1,0,none⟩) (Nat.le_succ _) _).setCell (p:=⟨w.heap.size+1,1,none⟩) (Nat.le_succ _) _).setCell (p:=⟨w.heap.size+1,2,none⟩) (Nat.le_succ _) _).setCell (p:=⟨w.heap.size+1,3,none⟩) (Nat.le_succ _) _).setCell (p:=⟨w.heap.size+1,4,none⟩) (Nat.le_succ _) _)
 have hs4:W4.heap.size=W3.heap.size:=by rw [← hW4];simp
 have HF4:Hid (Zbw w.heap.size W4.heap.size W4 (.slice pa' xp.length pc') xp):=by
  show Zbw _ _ _ _ _
  rw [hs4]
  refine Zbw.mono (by omega) (Nat.le_refl _) (HF3.out.keep fun b o h1 h2=>?_)
  have hne:w.heap.size+1≠b:=by omega
  have e:W4.heap[b]?=W3.heap[b]?:=by
   rw [← hW4]
   repeat rw [Below.heap_setCell _ _ _ _ (Ne.symm hne)]
  exact ⟨World.cell?_of_block e,by unfold World.frozen?;rw [e]⟩
 clear hW4 r0 r1 r2 r3 r4 q0 q1 q2 q3 q4 z0 z1 z2 z3 z4
 have p0:=HR4.out.cell 0 rfl
 have p1:=HR4.out.cell 1 rfl
 have p2:=HR4.out.cell 2 rfl
 have p3:=HR4.out.cell 3 rfl
 have p4:=HR4.out.cell 4 rfl
 refine bodyPost_ret (v:=.agg #[.int .i64 xi,.int .i64 fr,.int .i64 tt,.string ty,.slice pa' xp.length pc']) ?_ rfl ⟨[.int .i64 xi,.int .i64 fr,.int .i64 tt,.string ty,.slice pa' xp.length pc'],rfl,⟨_,rfl,HF4.out⟩,HB4.out⟩
 simp [results,Tryz.results38,go_sem,p0,p1,p2,p3,p4]
end
section
open Go.RowKit Go.Shelf
set_option linter.all false
attribute [local go_sem] Oper.semAt_some
set_option maxRecDepth 100000 in
set_option maxHeartbeats 4000000 in
theorem Zlp (r:Zp) (v:Value) (B:Nat) (w:World) (hB:B≤w.heap.size) (hv:Zv B w v r) (hm:r.labels.length≤2000000) (hn:r.props.length≤2000000) (ht:∀ q ∈ r.props,q.2.total≤2000000) :
  Calls Tryz.prog 36 #[v] w fun e w'=>∃ cs,e=.returned (.agg cs.toArray)∧Zee w.heap.size w'.heap.size w' cs r∧Below w.heap.size w w':=by
 obtain ⟨la,lc,pa,pc,rfl,_,hk,hp⟩:=hv
 have HCN:=Zb (fun W (hb:Below w.heap.size w W)=>Zjp B la lc r.labels W (hk.below (hb.mono hB)) hm)
 have HCR:=Zb (fun W (hb:Below w.heap.size w W)=>Ziv _ r.props B W (by have:=hb.size;omega) (hp.below (hb.mono hB)) hn ht)
 obtain ⟨xi,xl,xp⟩:=r
 simp only at HCN HCR ⊢
 generalize hll:xl.length=ll at HCN ⊢
 generalize hpl:xp.length=pl at HCR ⊢
 have HLL:=Zb hll
 clear hk hp hm hn ht hll hpl
 go_enter Tryz.func36,Tryz.ntmps36
 go_upto_region 1 with fail
 generalize hW1:World.alloc _ _=W1
 have HB1:Hid (Below w.heap.size w W1):=by rw [← hW1];exact ((Below.refl _ _).alloc (Nat.le_refl _) _).alloc (by simp) _
 have HR1:Hid (Rec W1 w.heap.size #[.int .i64 xi,.slice la ll lc,.slice pa pl pc] 47):=by rw [← hW1];exact (Zl _ _ _).alloc _
 have HZ1:Hid (Rec W1 (w.heap.size+1) #[.int .i64 0,.slice none 0 0,.slice none 0 0] 47):=by
  have h:=Zl (w.alloc (.cells #[.int .i64 xi,.slice la ll lc,.slice pa pl pc] 47)) #[.int .i64 0,.slice none 0 0,.slice none 0 0] 47
  rw [World.size_alloc,hW1] at h
  exact h
 clear hW1
 have a1:=HR1.out.cell 1 rfl
 have a2:=HR1.out.cell 2 rfl
 go_region_with (first | (refine (HCN.out _ (by first | exact HB1.out | exact HB1.out.drew | exact HB1.out.drew.drew)).mono ?_;rintro e w2 ⟨ka',kc',rfl,hs,hkf,hb2⟩;have HS2:=Zb hs;have HK2:=Zb hkf;have HBB2:Hid (Below W1.heap.size W1 w2):=⟨hb2.1,hb2.2,hb2.3,hb2.4,hb2.5⟩;have HR2:=Zb (HR1.out.below HBB2.out HR1.out.lt);have b2:=HR2.out.cell 2 rfl;clear hs hkf hb2) | (refine (HCR.out _ (by first | exact Za HB1.out HBB2.out | exact (Za HB1.out HBB2.out).drew)).mono ?_;rintro e w3 ⟨v3,rfl,hpf,hb3⟩;have HP3:=Zb hpf;obtain ⟨pa3,pc3,rfl,hq1,hq2,hq3⟩:=hpf;clear hq1 hq2 hq3;have HBB3:Hid (Below w2.heap.size w2 w3):=⟨hb3.1,hb3.2,hb3.3,hb3.4,hb3.5⟩;have HR3:=Zb (HR2.out.below HBB3.out HR2.out.lt);have y1:=HR3.out.cell 1 rfl;have y2:=HR3.out.cell 2 rfl;have z1:=HR3.out.z 1;have z2:=HR3.out.z 2;clear hb3))
 all_goals
  clear a1 a2 b2 y1 y2 z1 z2
  have hs1:w.heap.size+2≤W1.heap.size:=by have:=HZ1.out.lt;omega
  have HZ3:=Zb ((HZ1.out.below HBB2.out HZ1.out.lt).below HBB3.out (HZ1.out.below HBB2.out HZ1.out.lt).lt)
  have HB3:=Zb (Za (Za HB1.out HBB2.out) HBB3.out)
  have HK3:Hid (Zfh W1.heap.size w3.heap.size w3 ka' xl):=(Zfh.keep (Zc5 HBB3.out (Nat.le_refl _)) HK2.out).mono (Nat.le_refl _) HBB3.out.size
  have HP3':Hid (Zbw w2.heap.size w3.heap.size w3 (.slice pa3 xp.length pc3) xp):=HP3.out
  have hs2:W1.heap.size≤w2.heap.size:=HBB2.out.size
  generalize hW4:World.setCell _ _ _=W4
  have HR4:Hid (Rec W4 w.heap.size #[.int .i64 xi,.slice ka' ll kc',.slice pa3 xp.length pc3] 47):=by
   rw [← hW4];exact (HR3.out.set 1 _).set 2 _
  have HZ4:Hid (Rec W4 (w.heap.size+1) #[.int .i64 0,.slice none 0 0,.slice none 0 0] 47):=by
   rw [← hW4];exact (HZ3.out.other (by omega)).other (by omega)
  have HB4:Hid (Below w.heap.size w W4):=by rw [← hW4];exact (HB3.out.setCell (p:=⟨w.heap.size,1,none⟩) (Nat.le_refl _) _).setCell (p:=⟨w.heap.size,2,none⟩) (Nat.le_refl _) _
  have hs4:W4.heap.size=w3.heap.size:=by rw [← hW4];simp
  have HH4:Hid (∀ b,w.heap.size≠b→W4.heap[b]?=w3.heap[b]?):=fun b hb=>by
   rw [← hW4]
   repeat rw [Below.heap_setCell _ _ _ _ (Ne.symm hb)]
  clear hW4
  have r0:=HR4.out.cell 0 rfl
  have r1:=HR4.out.cell 1 rfl
  have r2:=HR4.out.cell 2 rfl
  have q0:=HZ4.out.cell 0 rfl
  have q1:=HZ4.out.cell 1 rfl
  have q2:=HZ4.out.cell 2 rfl
  have f0:=HZ4.out.z 0
  have f1:=HZ4.out.z 1
  have f2:=HZ4.out.z 2
  go_wp2_with fail
  generalize hW5:World.setCell _ _ _=W5
  have HR5:Hid (Rec W5 (w.heap.size+1) #[.int .i64 xi,.slice ka' ll kc',.slice pa3 xp.length pc3] 47):=by
   rw [← hW5];exact ((HZ4.out.set 0 _).set 1 _).set 2 _
  have HB5:Hid (Below w.heap.size w W5):=by
   rw [← hW5]
   exact ((HB4.out.setCell (p:=⟨w.heap.size+1,0,none⟩) (Nat.le_succ _) _).setCell (p:=⟨w.heap.size+1,1,none⟩) (Nat.le_succ _) _).setCell (p:=⟨w.heap.size+1,2,none⟩) (Nat.le_succ _) _
  have hs5:W5.heap.size=w3.heap.size:=by rw [← hW5];simp [hs4]
  have HH5:Hid (∀ b,W1.heap.size≤b→W5.heap[b]?=w3.heap[b]?):=fun b hb=>by
   have hne:w.heap.size+1≠b:=by omega
   rw [← hW5]
   repeat rw [Below.heap_setCell _ _ _ _ (Ne.symm hne)]
   exact HH4.out b (by omega)
  have HKF:Hid (Zcc W1.heap.size w3.heap.size w3 W5):=fun b o h1 h2=>⟨World.cell?_of_block (HH5.out b h1),by unfold World.frozen?;rw [HH5.out b h1]⟩
  clear hW5 r0 r1 r2 q0 q1 q2 f0 f1 f2
  have p0:=HR5.out.cell 0 rfl
  have p1:=HR5.out.cell 1 rfl
  have p2:=HR5.out.cell 2 rfl
  have hll:=HLL.out
  subst hll
  refine bodyPost_ret (v:=.agg #[.int .i64 xi,.slice ka' xl.length kc',.slice pa3 xp.length pc3]) ?_ rfl ⟨[.int .i64 xi,.slice ka' xl.length kc',.slice pa3 xp.length pc3],rfl,⟨_,_,_,rfl,HS2.out,?_,?_⟩,HB5.out⟩
  ·simp [results,Tryz.results36,go_sem,p0,p1,p2]
  ·rw [hs5]
   exact (HK3.out.keep HKF.out).mono (by omega) (Nat.le_refl _)
  ·rw [hs5]
   exact Zbw.mono (by omega) (Nat.le_refl _) (HP3'.out.keep fun b o h1 h2=>HKF.out b o (by omega) h2)
end
