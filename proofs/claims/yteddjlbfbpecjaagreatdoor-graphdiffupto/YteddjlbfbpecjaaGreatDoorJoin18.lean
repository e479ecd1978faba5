import Derived.Test.YteddjlbfbpecjaaGreatDoorJoin17
namespace Go.Proofs.YteddjlbfbpecjaaGreatDoor
set_option maxHeartbeats 8000000
set_option maxRecDepth 100000
set_option linter.all false
section
open Go.RowKit Go.Shelf Go.WideShapes
noncomputable def RST  : Array Oper:=Zy Tryz.f105 6
def LST  : List Sig:=[⟨17,.move (.tmp 0),44,none⟩,⟨18,.move (.tmp 5),3,none⟩,⟨19,.indexAddr 44 (.tmp 17) (.tmp 18),0,none⟩,⟨20,.load 9 (.tmp 19),9,none⟩,⟨21,.move (.tmp 1),44,none⟩,⟨22,.move (.tmp 5),3,none⟩,⟨23,.indexAddr 44 (.tmp 21) (.tmp 22),0,none⟩,⟨24,.load 9 (.tmp 23),9,none⟩,⟨25,.binOp .neq 9 (.tmp 20) (.tmp 24) 9,4,none⟩]
theorem Jkq  : Jh RST=LST.map some:=by kernel_rfl
def AST  : List (List Nat):=[[],[],[0,1],[2],[],[],[4,5],[6],[3,7]]
structure Zrs (m off kl kc f d l g j:Nat) (x y:ByteArray) (c:Act):Prop where
 t0:c.eval (.tmp 0)=.slice (some ⟨m,off,none⟩) kl kc
 t1:c.eval (.tmp 1)=.slice (some ⟨f,d,none⟩) l g
 t5:c.eval (.tmp 5)=.int .i64 (j:Int)
def Jkr (m off kl kc f d l g j:Nat) (x y:ByteArray):List Value:=[.slice (some ⟨m,off,none⟩) kl kc,.int .i64 (j:Int),.pointer (some ⟨m,off+j,none⟩),.string x,.slice (some ⟨f,d,none⟩) l g,.int .i64 (j:Int),.pointer (some ⟨f,d+j,none⟩),.string y,.bool true]
structure Zrt (m off kl kc f d l g j:Nat) (x y:ByteArray) (w:World):Prop where
 lt:j<kl
 le:kl<=9223372036854775807
 cx:w.cell? ⟨m,off+j,none⟩=some (.string x)
 lt2:j<l
 le2:l<=9223372036854775807
 cy:w.cell? ⟨f,d+j,none⟩=some (.string y)
 a1:(!(x.toList==y.toList))=true
theorem Zxo (m off kl kc f d l g j:Nat) (x y:ByteArray) (Q:Exit->Act->World->Prop) (base:Act) (H:World) (K:base.tmps.size=26) (u:Zrs m off kl kc f d l g j x y base)
  (o:∀ w,Below H.heap.size H w->Zrt m off kl kc f d l g j x y w) (Y:∀ c w,Zaf RST base c->Below H.heap.size H w->c.eval (.tmp 25)=.bool true->Q .normal c w):(Code.region 6 RST true).wp Tryz.prog Q base H:=by
 refine Zn (B:=Zrs m off kl kc f d l g j x y) (T:=Zrt m off kl kc f d l g j x y) (n:=9) (k:=8) LST AST (Jkr m off kl kc f d l g j x y) Jkq rfl (by kernel_rfl) (by kernel_rfl) (by kernel_rfl) (by rw [K];kernel_rfl) (fun c E=>⟨(Zc E (by kernel_rfl)).trans u.t0,(Zc E (by kernel_rfl)).trans u.t1,(Zc E (by kernel_rfl)).trans u.t5⟩) o ?_ (by decide) rfl rfl Y
 clear K u o Y
 iterate 9 (refine Zd ?_ (by
  intro c w u o hEq
  obtain ⟨t0,t1,t5⟩:=u
  obtain ⟨lt,le,cx,lt2,le2,cy,a1⟩:=o
  have ec:=evc c
  have ef:=evf c
  dsimp only [AST,LST,Jkr,nth,Zbm,Za2,Jc] at hEq |-
  first
  | exact ⟨by simp only [hEq],.inr ⟨by first | exact .inl rfl | exact .inr rfl,rfl⟩⟩
  | ((try refine ⟨by simp only [hEq],.inl ⟨rfl,?_⟩⟩);first | (refine .inl fun pos af=>?_;(dsimp only [Sig.oper];generalize c.eval=ρ at *;go_simp;done)) | (refine .inl fun pos af=>?_;dsimp only [Sig.oper];generalize c.eval=ρ at *;go_simp;simp only [decide_eq_true_eq,decide_eq_false_iff_not] at *;omega))))
 exact Zf
def Jks (m off kl kc f d l g j:Nat) (x y:ByteArray):List Value:=[.slice (some ⟨m,off,none⟩) kl kc,.int .i64 (j:Int),.pointer (some ⟨m,off+j,none⟩),.string x,.slice (some ⟨f,d,none⟩) l g,.int .i64 (j:Int),.pointer (some ⟨f,d+j,none⟩),.string y,.bool false]
structure Zru (m off kl kc f d l g j:Nat) (x y:ByteArray) (w:World):Prop where
 lt:j<kl
 le:kl<=9223372036854775807
 cx:w.cell? ⟨m,off+j,none⟩=some (.string x)
 lt2:j<l
 le2:l<=9223372036854775807
 cy:w.cell? ⟨f,d+j,none⟩=some (.string y)
 a1:(!(x.toList==y.toList))=false
theorem Zxp (m off kl kc f d l g j:Nat) (x y:ByteArray) (Q:Exit->Act->World->Prop) (base:Act) (H:World) (K:base.tmps.size=26) (u:Zrs m off kl kc f d l g j x y base)
  (o:∀ w,Below H.heap.size H w->Zru m off kl kc f d l g j x y w) (Y:∀ c w,Zaf RST base c->Below H.heap.size H w->c.eval (.tmp 25)=.bool false->Q .normal c w):(Code.region 6 RST true).wp Tryz.prog Q base H:=by
 refine Zn (B:=Zrs m off kl kc f d l g j x y) (T:=Zru m off kl kc f d l g j x y) (n:=9) (k:=8) LST AST (Jks m off kl kc f d l g j x y) Jkq rfl (by kernel_rfl) (by kernel_rfl) (by kernel_rfl) (by rw [K];kernel_rfl) (fun c E=>⟨(Zc E (by kernel_rfl)).trans u.t0,(Zc E (by kernel_rfl)).trans u.t1,(Zc E (by kernel_rfl)).trans u.t5⟩) o ?_ (by decide) rfl rfl Y
 clear K u o Y
 iterate 9 (refine Zd ?_ (by
  intro c w u o hEq
  obtain ⟨t0,t1,t5⟩:=u
  obtain ⟨lt,le,cx,lt2,le2,cy,a1⟩:=o
  have ec:=evc c
  have ef:=evf c
  dsimp only [AST,LST,Jks,nth,Zbm,Za2,Jc] at hEq |-
  first
  | exact ⟨by simp only [hEq],.inr ⟨by first | exact .inl rfl | exact .inr rfl,rfl⟩⟩
  | ((try refine ⟨by simp only [hEq],.inl ⟨rfl,?_⟩⟩);first | (refine .inl fun pos af=>?_;(dsimp only [Sig.oper];generalize c.eval=ρ at *;go_simp;done)) | (refine .inl fun pos af=>?_;dsimp only [Sig.oper];generalize c.eval=ρ at *;go_simp;simp only [decide_eq_true_eq,decide_eq_false_iff_not] at *;omega))))
 exact Zf
noncomputable def RSP  : Array Oper:=Zy Tryz.f106 6
def LSP  : List Sig:=[⟨17,.move (.tmp 0),45,none⟩,⟨18,.move (.tmp 5),3,none⟩,⟨19,.indexAddr 45 (.tmp 17) (.tmp 18),0,none⟩,⟨20,.fieldAddr 79 (.tmp 19) 0,0,none⟩,⟨21,.load 9 (.tmp 20),9,none⟩,⟨22,.move (.tmp 1),45,none⟩,⟨23,.move (.tmp 5),3,none⟩,⟨24,.indexAddr 45 (.tmp 22) (.tmp 23),0,none⟩,⟨25,.fieldAddr 79 (.tmp 24) 0,0,none⟩,⟨26,.load 9 (.tmp 25),9,none⟩,⟨27,.binOp .neq 9 (.tmp 21) (.tmp 26) 9,4,none⟩,⟨28,.move (.tmp 27),4,none⟩,⟨29,.move (.tmp 0),45,some (11,false)⟩,⟨30,.move (.tmp 5),3,some (11,false)⟩,⟨31,.indexAddr 45 (.tmp 29) (.tmp 30),0,some (11,false)⟩,⟨32,.fieldAddr 79 (.tmp 31) 1,0,some (11,false)⟩,⟨33,.load 60 (.tmp 32),60,some (11,false)⟩,⟨34,.move (.tmp 1),45,some (11,false)⟩,⟨35,.move (.tmp 5),3,some (11,false)⟩,⟨36,.indexAddr 45 (.tmp 34) (.tmp 35),0,some (11,false)⟩,⟨37,.fieldAddr 79 (.tmp 36) 1,0,some (11,false)⟩,⟨38,.load 60 (.tmp 37),60,some (11,false)⟩,⟨39,.call { callee:=.value (.func 151),args:=#[.tmp 33,.tmp 38],argTypes:=#[60,60] },4,some (11,false)⟩,⟨40,.unOp .not 4 (.tmp 39),4,some (11,false)⟩,⟨41,.pick (.tmp 28) (.const (.bool true)) (.tmp 40),4,none⟩]
theorem Jjf  : Jh RSP=LSP.map some:=by kernel_rfl
def ASP  : List (List Nat):=[[],[],[0,1],[2],[3],[],[],[5,6],[7],[8],[4,9],[10],[11],[11],[11,12,13],[11,14],[11,15],[11],[11],[11,17,18],[11,19],[11,20],[11,16,21],[11,22],[11,23]]
structure Zk1 (m off kl kc f d l g j:Nat) (x y:ByteArray) (v0 v1 v2 v3 v4 v5 D z G C F A:Value) (c:Act):Prop where
 t0:c.eval (.tmp 0)=.slice (some ⟨m,off,none⟩) kl kc
 t1:c.eval (.tmp 1)=.slice (some ⟨f,d,none⟩) l g
 t5:c.eval (.tmp 5)=.int .i64 (j:Int)
def Jkt (m off kl kc f d l g j:Nat) (x y:ByteArray) (v0 v1 v2 v3 v4 v5 D z G C F A:Value):List Value:=[.slice (some ⟨m,off,none⟩) kl kc,.int .i64 (j:Int),.pointer (some ⟨m,off+j*7,none⟩),.pointer (some ⟨m,off+j*7,none⟩),.string x,.slice (some ⟨f,d,none⟩) l g,.int .i64 (j:Int),.pointer (some ⟨f,d+j*7,none⟩),.pointer (some ⟨f,d+j*7,none⟩),.string y,.bool true,.bool true,undef,undef,undef,undef,undef,undef,undef,undef,undef,undef,undef,undef,.bool true]
structure Zrv (m off kl kc f d l g j:Nat) (x y:ByteArray) (v0 v1 v2 v3 v4 v5 D z G C F A:Value) (w:World):Prop where
 lt:j<kl
 le:kl<=9223372036854775807
 cx:w.cell? ⟨m,off+j*7,none⟩=some (.string x)
 lt2:j<l
 le2:l<=9223372036854775807
 cy:w.cell? ⟨f,d+j*7,none⟩=some (.string y)
 a1:(!(x.toList==y.toList))=true
theorem Zxq (m off kl kc f d l g j:Nat) (x y:ByteArray) (v0 v1 v2 v3 v4 v5 D z G C F A:Value) (Q:Exit->Act->World->Prop) (base:Act) (H:World) (K:base.tmps.size=42) (u:Zk1 m off kl kc f d l g j x y v0 v1 v2 v3 v4 v5 D z G C F A base)
  (o:∀ w,Below H.heap.size H w->Zrv m off kl kc f d l g j x y v0 v1 v2 v3 v4 v5 D z G C F A w) (Y:∀ c w,Zaf RSP base c->Below H.heap.size H w->c.eval (.tmp 41)=.bool true->Q .normal c w):(Code.region 6 RSP true).wp Tryz.prog Q base H:=by
 refine Zn (B:=Zk1 m off kl kc f d l g j x y v0 v1 v2 v3 v4 v5 D z G C F A) (T:=Zrv m off kl kc f d l g j x y v0 v1 v2 v3 v4 v5 D z G C F A) (n:=25) (k:=24) LSP ASP (Jkt m off kl kc f d l g j x y v0 v1 v2 v3 v4 v5 D z G C F A) Jjf rfl (by kernel_rfl) (by kernel_rfl) (by kernel_rfl) (by rw [K];kernel_rfl) (fun c E=>⟨(Zc E (by kernel_rfl)).trans u.t0,(Zc E (by kernel_rfl)).trans u.t1,(Zc E (by kernel_rfl)).trans u.t5⟩) o ?_ (by decide) rfl rfl Y
 clear K u o Y
 iterate 25 (refine Zd ?_ (by
  intro c w u o hEq
  obtain ⟨t0,t1,t5⟩:=u
  obtain ⟨lt,le,cx,lt2,le2,cy,a1⟩:=o
  have ec:=evc c
  have ef:=evf c
  dsimp only [ASP,LSP,Jkt,nth,Zbm,Za2,Jc] at hEq |-
  first
  | exact ⟨by simp only [hEq],.inr ⟨by first | exact .inl rfl | exact .inr rfl,rfl⟩⟩
  | ((try refine ⟨by simp only [hEq],.inl ⟨rfl,?_⟩⟩);first | (refine .inl fun pos af=>?_;(dsimp only [Sig.oper];generalize c.eval=ρ at *;go_simp;done)) | (refine .inl fun pos af=>?_;dsimp only [Sig.oper];generalize c.eval=ρ at *;go_simp;simp only [decide_eq_true_eq,decide_eq_false_iff_not] at *;omega))))
 exact Zf
def Jku (m off kl kc f d l g j:Nat) (x y:ByteArray) (v0 v1 v2 v3 v4 v5 D z G C F A:Value):List Value:=[.slice (some ⟨m,off,none⟩) kl kc,.int .i64 (j:Int),.pointer (some ⟨m,off+j*7,none⟩),.pointer (some ⟨m,off+j*7,none⟩),.string x,.slice (some ⟨f,d,none⟩) l g,.int .i64 (j:Int),.pointer (some ⟨f,d+j*7,none⟩),.pointer (some ⟨f,d+j*7,none⟩),.string y,.bool false,.bool false,.slice (some ⟨m,off,none⟩) kl kc,.int .i64 (j:Int),.pointer (some ⟨m,off+j*7,none⟩),.pointer (some ⟨m,off+j*7+1,none⟩),.agg #[v0,v1,v2,v3,v4,v5],.slice (some ⟨f,d,none⟩) l g,.int .i64 (j:Int),.pointer (some ⟨f,d+j*7,none⟩),.pointer (some ⟨f,d+j*7+1,none⟩),.agg #[D,z,G,C,F,A],.bool false,.bool true,.bool true]
structure Zrw (m off kl kc f d l g j:Nat) (x y:ByteArray) (v0 v1 v2 v3 v4 v5 D z G C F A:Value) (w:World):Prop where
 lt:j<kl
 le:kl<=9223372036854775807
 cx:w.cell? ⟨m,off+j*7,none⟩=some (.string x)
 lt2:j<l
 le2:l<=9223372036854775807
 cy:w.cell? ⟨f,d+j*7,none⟩=some (.string y)
 a1:(!(x.toList==y.toList))=false
 c0:w.cell? ⟨m,off+j*7+1,none⟩=some (v0)
 c1:w.cell? ⟨m,off+j*7+2,none⟩=some (v1)
 c2:w.cell? ⟨m,off+j*7+3,none⟩=some (v2)
 c3:w.cell? ⟨m,off+j*7+4,none⟩=some (v3)
 c4:w.cell? ⟨m,off+j*7+5,none⟩=some (v4)
 c5:w.cell? ⟨m,off+j*7+6,none⟩=some (v5)
 d0:w.cell? ⟨f,d+j*7+1,none⟩=some (D)
 d1:w.cell? ⟨f,d+j*7+2,none⟩=some (z)
 d2:w.cell? ⟨f,d+j*7+3,none⟩=some (G)
 d3:w.cell? ⟨f,d+j*7+4,none⟩=some (C)
 d4:w.cell? ⟨f,d+j*7+5,none⟩=some (F)
 d5:w.cell? ⟨f,d+j*7+6,none⟩=some (A)
 k1:Calls Tryz.prog 151 #[.agg #[v0,v1,v2,v3,v4,v5],.agg #[D,z,G,C,F,A]] w fun e w'=>e=.returned (.bool false)/\Below w.heap.size w w'
theorem Zxr (m off kl kc f d l g j:Nat) (x y:ByteArray) (v0 v1 v2 v3 v4 v5 D z G C F A:Value) (Q:Exit->Act->World->Prop) (base:Act) (H:World) (K:base.tmps.size=42) (u:Zk1 m off kl kc f d l g j x y v0 v1 v2 v3 v4 v5 D z G C F A base)
  (o:∀ w,Below H.heap.size H w->Zrw m off kl kc f d l g j x y v0 v1 v2 v3 v4 v5 D z G C F A w) (Y:∀ c w,Zaf RSP base c->Below H.heap.size H w->c.eval (.tmp 41)=.bool true->Q .normal c w):(Code.region 6 RSP true).wp Tryz.prog Q base H:=by
 refine Zn (B:=Zk1 m off kl kc f d l g j x y v0 v1 v2 v3 v4 v5 D z G C F A) (T:=Zrw m off kl kc f d l g j x y v0 v1 v2 v3 v4 v5 D z G C F A) (n:=25) (k:=24) LSP ASP (Jku m off kl kc f d l g j x y v0 v1 v2 v3 v4 v5 D z G C F A) Jjf rfl (by kernel_rfl) (by kernel_rfl) (by kernel_rfl) (by rw [K];kernel_rfl) (fun c E=>⟨(Zc E (by kernel_rfl)).trans u.t0,(Zc E (by kernel_rfl)).trans u.t1,(Zc E (by kernel_rfl)).trans u.t5⟩) o ?_ (by decide) rfl rfl Y
 clear K u o Y
 iterate 25 (refine Zd ?_ (by
  intro c w u o hEq
  obtain ⟨t0,t1,t5⟩:=u
  obtain ⟨lt,le,cx,lt2,le2,cy,a1,c0,c1,c2,c3,c4,c5,d0,d1,d2,d3,d4,d5,k1⟩:=o
  have ec:=evc c
  have ef:=evf c
  dsimp only [ASP,LSP,Jku,nth,Zbm,Za2,Jc] at hEq |-
  first
  | exact ⟨by simp only [hEq],.inr ⟨by first | exact .inl rfl | exact .inr rfl,rfl⟩⟩
  | ((try refine ⟨by simp only [hEq],.inl ⟨rfl,?_⟩⟩);first | (refine Zk Tryz.call151 k1 ?_;simp only [List.map_toArray,List.map_cons,List.map_nil,hEq];done) | (refine .inl fun pos af=>?_;(clear k1;dsimp only [Sig.oper];generalize c.eval=ρ at *;go_simp;done)) | (refine .inl fun pos af=>?_;clear k1;dsimp only [Sig.oper];generalize c.eval=ρ at *;go_simp;simp only [decide_eq_true_eq,decide_eq_false_iff_not] at *;omega))))
 exact Zf
def Jkv (m off kl kc f d l g j:Nat) (x y:ByteArray) (v0 v1 v2 v3 v4 v5 D z G C F A:Value):List Value:=[.slice (some ⟨m,off,none⟩) kl kc,.int .i64 (j:Int),.pointer (some ⟨m,off+j*7,none⟩),.pointer (some ⟨m,off+j*7,none⟩),.string x,.slice (some ⟨f,d,none⟩) l g,.int .i64 (j:Int),.pointer (some ⟨f,d+j*7,none⟩),.pointer (some ⟨f,d+j*7,none⟩),.string y,.bool false,.bool false,.slice (some ⟨m,off,none⟩) kl kc,.int .i64 (j:Int),.pointer (some ⟨m,off+j*7,none⟩),.pointer (some ⟨m,off+j*7+1,none⟩),.agg #[v0,v1,v2,v3,v4,v5],.slice (some ⟨f,d,none⟩) l g,.int .i64 (j:Int),.pointer (some ⟨f,d+j*7,none⟩),.pointer (some ⟨f,d+j*7+1,none⟩),.agg #[D,z,G,C,F,A],.bool true,.bool false,.bool false]
structure Zrx (m off kl kc f d l g j:Nat) (x y:ByteArray) (v0 v1 v2 v3 v4 v5 D z G C F A:Value) (w:World):Prop where
 lt:j<kl
 le:kl<=9223372036854775807
 cx:w.cell? ⟨m,off+j*7,none⟩=some (.string x)
 lt2:j<l
 le2:l<=9223372036854775807
 cy:w.cell? ⟨f,d+j*7,none⟩=some (.string y)
 a1:(!(x.toList==y.toList))=false
 c0:w.cell? ⟨m,off+j*7+1,none⟩=some (v0)
 c1:w.cell? ⟨m,off+j*7+2,none⟩=some (v1)
 c2:w.cell? ⟨m,off+j*7+3,none⟩=some (v2)
 c3:w.cell? ⟨m,off+j*7+4,none⟩=some (v3)
 c4:w.cell? ⟨m,off+j*7+5,none⟩=some (v4)
 c5:w.cell? ⟨m,off+j*7+6,none⟩=some (v5)
 d0:w.cell? ⟨f,d+j*7+1,none⟩=some (D)
 d1:w.cell? ⟨f,d+j*7+2,none⟩=some (z)
 d2:w.cell? ⟨f,d+j*7+3,none⟩=some (G)
 d3:w.cell? ⟨f,d+j*7+4,none⟩=some (C)
 d4:w.cell? ⟨f,d+j*7+5,none⟩=some (F)
 d5:w.cell? ⟨f,d+j*7+6,none⟩=some (A)
 k1:Calls Tryz.prog 151 #[.agg #[v0,v1,v2,v3,v4,v5],.agg #[D,z,G,C,F,A]] w fun e w'=>e=.returned (.bool true)/\Below w.heap.size w w'
theorem Zxs (m off kl kc f d l g j:Nat) (x y:ByteArray) (v0 v1 v2 v3 v4 v5 D z G C F A:Value) (Q:Exit->Act->World->Prop) (base:Act) (H:World) (K:base.tmps.size=42) (u:Zk1 m off kl kc f d l g j x y v0 v1 v2 v3 v4 v5 D z G C F A base)
  (o:∀ w,Below H.heap.size H w->Zrx m off kl kc f d l g j x y v0 v1 v2 v3 v4 v5 D z G C F A w) (Y:∀ c w,Zaf RSP base c->Below H.heap.size H w->c.eval (.tmp 41)=.bool false->Q .normal c w):(Code.region 6 RSP true).wp Tryz.prog Q base H:=by
 refine Zn (B:=Zk1 m off kl kc f d l g j x y v0 v1 v2 v3 v4 v5 D z G C F A) (T:=Zrx m off kl kc f d l g j x y v0 v1 v2 v3 v4 v5 D z G C F A) (n:=25) (k:=24) LSP ASP (Jkv m off kl kc f d l g j x y v0 v1 v2 v3 v4 v5 D z G C F A) Jjf rfl (by kernel_rfl) (by kernel_rfl) (by kernel_rfl) (by rw [K];kernel_rfl) (fun c E=>⟨(Zc E (by kernel_rfl)).trans u.t0,(Zc E (by kernel_rfl)).trans u.t1,(Zc E (by kernel_rfl)).trans u.t5⟩) o ?_ (by decide) rfl rfl Y
 clear K u o Y
 iterate 25 (refine Zd ?_ (by
  intro c w u o hEq
  obtain ⟨t0,t1,t5⟩:=u
  obtain ⟨lt,le,cx,lt2,le2,cy,a1,c0,c1,c2,c3,c4,c5,d0,d1,d2,d3,d4,d5,k1⟩:=o
  have ec:=evc c
  have ef:=evf c
  dsimp only [ASP,LSP,Jkv,nth,Zbm,Za2,Jc] at hEq |-
  first
  | exact ⟨by simp only [hEq],.inr ⟨by first | exact .inl rfl | exact .inr rfl,rfl⟩⟩
  | ((try refine ⟨by simp only [hEq],.inl ⟨rfl,?_⟩⟩);first | (refine Zk Tryz.call151 k1 ?_;simp only [List.map_toArray,List.map_cons,List.map_nil,hEq];done) | (refine .inl fun pos af=>?_;(clear k1;dsimp only [Sig.oper];generalize c.eval=ρ at *;go_simp;done)) | (refine .inl fun pos af=>?_;clear k1;dsimp only [Sig.oper];generalize c.eval=ρ at *;go_simp;simp only [decide_eq_true_eq,decide_eq_false_iff_not] at *;omega))))
 exact Zf
attribute [local go_sem] Oper.semAt_some
def Zac (a b:List ByteArray):Bool:=!((a.length:Int) != (b.length:Int))&&Za9 a b
def Zaa  : List (ByteArray × Zi)->List (ByteArray × Zi)->Bool
 | [],_=>true
 | _::_,[]=>true
 | p::r,q::r'=>(p.1.toList==q.1.toList)&&(Zb3 p.2 q.2&&Zaa r r')
def Zad (a b:List (ByteArray × Zi)):Bool:=!((a.length:Int) != (b.length:Int))&&Zaa a b
theorem Zme {ks t:List (ByteArray × Zi)} {j:Nat} {x y:ByteArray × Zi} (h:ks[j]?=some x) (h':t[j]?=some y):Zaa (ks.drop j) (t.drop j)=((x.1.toList==y.1.toList)&&(Zb3 x.2 y.2&&Zaa (ks.drop (j+1)) (t.drop (j+1)))):=by
 obtain ⟨hj,hx⟩:=List.getElem?_eq_some_iff.1 h
 obtain ⟨b9,c6⟩:=List.getElem?_eq_some_iff.1 h'
 rw [List.drop_eq_getElem_cons hj,hx,List.drop_eq_getElem_cons b9,c6,Zaa]
theorem Zmf (ks t:List ByteArray) (B:Nat) (ka a2:Option Addr) (kc g:Nat) (w:World) (hB:B<=w.heap.size) (hk:Zab B w ka ks) (a0:Zab B w a2 t) (h1:ks.length<=kc) (h2:kc<=9223372036854775807) (g1:t.length<=g) (g2:g<=9223372036854775807) :
  Calls Tryz.prog 105 #[.slice ka ks.length kc,.slice a2 t.length g] w fun e w'=>e=.returned (.bool (Zac ks t))/\Below w.heap.size w w':=by
 have a4:=Zb (And.intro hk a0)
 obtain ⟨res,I⟩:∃ r,Zac ks t=r:=⟨_,rfl⟩
 rw [I]
 unfold Zac at I
 have HR:=Zb I
 obtain ⟨n,hn⟩:∃ n,ks.length=n:=⟨_,rfl⟩
 obtain ⟨n2,N⟩:∃ n,t.length=n:=⟨_,rfl⟩
 have a3:=Zb hn
 have S:=Zb N
 rw [hn] at h1
 rw [N] at g1
 rw [hn,N] at HR
 rw [hn,N]
 clear hk a0 I hn N
 go_enter Tryz.func105,Tryz.ntmps105
 by_cases b5:((n:Int) != (n2:Int))=true
 ·have HF:Hid (res=false):=by
   show _=_
   rw [<- HR.out,b5];rfl
  go_wp2_with fail
  go_ret
  exact ⟨by rw [HF.out];rfl,Below.refl _ _⟩
 ·have z5:((n:Int) != (n2:Int))=false:=by simpa using b5
  clear b5
  have b3:Hid (Za9 ks t=res):=by
   show _=_
   rw [<- HR.out,z5];rfl
  have a7:Hid (n=n2):=by
   have a:=z5
   simp at a
   show _=_
   omega
  go_wp2_with fail
  clear HR z5
  obtain rfl:=a7.out
  clear a7
  go_loopw [5] (fun i wr=>∃ j:Nat,j<=n/\i=.int .i64 j/\Below w.heap.size w wr/\Za9 (ks.drop j) (t.drop j)=res) (fun i _=>n - (intOf i).toNat)
  case atStart=>exact ⟨0,Nat.zero_le _,rfl,Below.refl _ _,b3.out⟩
  case round =>
   obtain ⟨j,hj,rfl,V,a6⟩:=hrel
   have M:=Zb V
   have a8:=Zb a6
   have c7:w.heap.size<=wr.heap.size:=V.size
   clear V a6
   by_cases hlt:j<n
   ·have b0:(j:Int)<n:=by omega
    obtain ⟨xk,hx⟩:∃ q,ks[j]?=some q:=⟨_,List.getElem?_eq_getElem (by have:=a3.out;omega)⟩
    obtain ⟨X,hy⟩:∃ q,t[j]?=some q:=⟨_,List.getElem?_eq_getElem (by have:=S.out;omega)⟩
    obtain ⟨m,off,rfl,b7,hc⟩:=(a4.out.1.below (M.out.mono hB)).resolve_left (by intro e;rw [e] at hx;simp at hx)
    obtain ⟨f,d,rfl,b1,a9⟩:=(a4.out.2.below (M.out.mono hB)).resolve_left (by intro e;rw [e] at hy;simp at hy)
    have cx:=(hc j (by have:=a3.out;omega)).1
    have cy:=(a9 j (by have:=S.out;omega)).1
    rw [List.getD_eq_getElem?_getD,hx] at cx
    rw [List.getD_eq_getElem?_getD,hy] at cy
    simp only [Option.getD_some] at cx cy
    have v:m<wr.heap.size:=by omega
    have s:f<wr.heap.size:=by omega
    have HE:Hid (res=((xk.toList==X.toList)&&Za9 (ks.drop (j+1)) (t.drop (j+1)))):=by
     show _=_
     rw [<- a8.out,Zje hx hy]
    clear hx hy hc a9
    go_upto_region 6 with fail
    show (Code.region 6 RST true).wp _ _ _ _
    obtain ⟨b,u⟩:∃ b,(xk.toList==X.toList)=b:=⟨_,rfl⟩
    cases b with
    | false =>
     have R:Hid ((!(xk.toList==X.toList))=true):=by
      show _=_
      rw [u];rfl
     have U:=Zb u
     clear u
     refine Zxo m off n kc f d n g j xk X _ _ _ rfl ⟨rfl,rfl,rfl⟩ ?_ ?_
     ·intro W o
      exact ⟨hlt,by omega,(o.cell (p:=⟨m,off+j,none⟩) v).trans cx,hlt,by omega,(o.cell (p:=⟨f,d+j,none⟩) s).trans cy,R.out⟩
     intro c W3 E L a5
     rw [Zj E [17,18,19,20,21,22,23,24,25] (by kernel_rfl)]
     simp only [List.foldl_cons,List.foldl_nil,List.setIfInBounds_toArray,List.set_cons_succ,List.set_cons_zero,show Zbd c 25=_ from a5]
     clear a5 E
     have O:=Zb (Za M.out L)
     clear L
     have HF:Hid (res=false):=by
      show _=_
      rw [HE.out,U.out];rfl
     go_wp2_with fail
     go_ret
     exact ⟨by rw [HF.out];rfl,O.out⟩
    | true =>
     have R:Hid ((!(xk.toList==X.toList))=false):=by
      show _=_
      rw [u];rfl
     have U:=Zb u
     clear u
     refine Zxp m off n kc f d n g j xk X _ _ _ rfl ⟨rfl,rfl,rfl⟩ ?_ ?_
     ·intro W o
      exact ⟨hlt,by omega,(o.cell (p:=⟨m,off+j,none⟩) v).trans cx,hlt,by omega,(o.cell (p:=⟨f,d+j,none⟩) s).trans cy,R.out⟩
     intro c W3 E L a5
     rw [Zj E [17,18,19,20,21,22,23,24,25] (by kernel_rfl)]
     simp only [List.foldl_cons,List.foldl_nil,List.setIfInBounds_toArray,List.set_cons_succ,List.set_cons_zero,show Zbd c 25=_ from a5]
     clear a5 E
     have O:=Zb (Za M.out L)
     clear L
     have S:Hid (Za9 (ks.drop (j+1)) (t.drop (j+1))=res):=by
      show _=_
      rw [HE.out,U.out];rfl
     go_wp2_with fail
     go_roundw
     case rel=>exact ⟨j+1,by omega,by go_num,O.out,S.out⟩
     case measure=>simp [intOf];omega
   ·have HF:Hid (res=true):=by
     show _=_
     rw [<- a8.out,List.drop_of_length_le (by have:=a3.out;omega)];rfl
    have b0:¬ (j:Int)<n:=by omega
    go_wp2_with fail
    go_ret
    exact ⟨by rw [HF.out];rfl,M.out⟩
theorem Zgf (ks t:List (ByteArray × Zi)) (B:Nat) (ka a2:Option Addr) (kc g:Nat) (w:World) (hB:B<=w.heap.size) (hk:Jd B w (.slice ka ks.length kc) ks) (a0:Jd B w (.slice a2 t.length g) t) :
  Calls Tryz.prog 106 #[.slice ka ks.length kc,.slice a2 t.length g] w fun e w'=>e=.returned (.bool (Zad ks t))/\Below w.heap.size w w':=by
 obtain ⟨a',c',e1,h1,h2,b6⟩:=hk
 obtain ⟨rfl,rfl⟩:ka=a'/\kc=c':=by injection e1 with e1 _ e2;exact ⟨e1,e2⟩
 obtain ⟨a',c',e2,g1,g2,b8⟩:=a0
 obtain ⟨rfl,rfl⟩:a2=a'/\g=c':=by injection e2 with e1 _ e2;exact ⟨e1,e2⟩
 have a4:=Zb (And.intro b6 b8)
 have hk:=trivial
 have a0:=trivial
 clear b6 b8 e1 e2
 obtain ⟨res,I⟩:∃ r,Zad ks t=r:=⟨_,rfl⟩
 rw [I]
 unfold Zad at I
 have HR:=Zb I
 obtain ⟨n,hn⟩:∃ n,ks.length=n:=⟨_,rfl⟩
 obtain ⟨n2,N⟩:∃ n,t.length=n:=⟨_,rfl⟩
 have a3:=Zb hn
 have S:=Zb N
 rw [hn] at h1
 rw [N] at g1
 rw [hn,N] at HR
 rw [hn,N]
 clear hk a0 I hn N
 go_enter Tryz.func106,Tryz.ntmps106
 by_cases b5:((n:Int) != (n2:Int))=true
 ·have HF:Hid (res=false):=by
   show _=_
   rw [<- HR.out,b5];rfl
  go_wp2_with fail
  go_ret
  exact ⟨by rw [HF.out];rfl,Below.refl _ _⟩
 ·have z5:((n:Int) != (n2:Int))=false:=by simpa using b5
  clear b5
  have b3:Hid (Zaa ks t=res):=by
   show _=_
   rw [<- HR.out,z5];rfl
  have a7:Hid (n=n2):=by
   have a:=z5
   simp at a
   show _=_
   omega
  go_wp2_with fail
  clear HR z5
  obtain rfl:=a7.out
  clear a7
  go_loopw [5] (fun i wr=>∃ j:Nat,j<=n/\i=.int .i64 j/\Below w.heap.size w wr/\Zaa (ks.drop j) (t.drop j)=res) (fun i _=>n - (intOf i).toNat)
  case atStart=>exact ⟨0,Nat.zero_le _,rfl,Below.refl _ _,b3.out⟩
  case round =>
   obtain ⟨j,hj,rfl,V,a6⟩:=hrel
   have M:=Zb V
   have a8:=Zb a6
   have c7:w.heap.size<=wr.heap.size:=V.size
   clear V a6
   by_cases hlt:j<n
   ·have b0:(j:Int)<n:=by omega
    obtain ⟨⟨xk,T⟩,hx⟩:∃ q,ks[j]?=some q:=⟨_,List.getElem?_eq_getElem (by have:=a3.out;omega)⟩
    obtain ⟨⟨X,T'⟩,hy⟩:∃ q,t[j]?=some q:=⟨_,List.getElem?_eq_getElem (by have:=S.out;omega)⟩
    obtain ⟨m,off,rfl,b7,hc⟩:=a4.out.1.resolve_left (by intro e;rw [e] at hx;simp at hx)
    obtain ⟨f,d,rfl,b1,a9⟩:=a4.out.2.resolve_left (by intro e;rw [e] at hy;simp at hy)
    obtain ⟨cx,_,v0,v1,v2,v3,v4,v5,⟨c0,c1,c2,c3,c4,c5⟩,hv⟩:=(hc j _ hx).below (M.out.mono hB) b7
    obtain ⟨cy,_,D,z,G,C,F,A,⟨d0,d1,d2,d3,d4,d5⟩,hu⟩:=(a9 j _ hy).below (M.out.mono hB) b1
    simp only at cx cy hv hu
    have v:m<wr.heap.size:=by omega
    have s:f<wr.heap.size:=by omega
    have b4:=Zb (fun W (u:Below wr.heap.size wr W)=>Zxj T B _ _ T' W (by have:=u.size;omega) (hv.below (u.mono (by omega))) (hu.below (u.mono (by omega))))
    obtain ⟨ba,b2⟩:∃ b,Zb3 T T'=b:=⟨_,rfl⟩
    rw [b2] at b4
    have HE:Hid (res=((xk.toList==X.toList)&&(ba&&Zaa (ks.drop (j+1)) (t.drop (j+1))))):=by
     show _=_
     rw [<- a8.out,Zme hx hy,b2]
    clear hx hy hc a9 hv hu b2
    go_upto_region 6 with fail
    show (Code.region 6 RSP true).wp _ _ _ _
    obtain ⟨b,u⟩:∃ b,(xk.toList==X.toList)=b:=⟨_,rfl⟩
    cases b with
    | false =>
     have R:Hid ((!(xk.toList==X.toList))=true):=by
      show _=_
      rw [u];rfl
     have U:=Zb u
     clear u
     refine Zxq m off n kc f d n g j xk X v0 v1 v2 v3 v4 v5 D z G C F A _ _ _ rfl ⟨rfl,rfl,rfl⟩ ?_ ?_
     ·intro W o
      exact ⟨hlt,by omega,(o.cell (p:=⟨m,off+j*7,none⟩) v).trans cx,hlt,by omega,(o.cell (p:=⟨f,d+j*7,none⟩) s).trans cy,R.out⟩
     intro c W3 E L P
     rw [Zj E [17,18,19,20,21,22,23,24,25,26,27,28,29,30,31,32,33,34,35,36,37,38,39,40,41] (by kernel_rfl)]
     simp only [List.foldl_cons,List.foldl_nil,List.setIfInBounds_toArray,List.set_cons_succ,List.set_cons_zero,show Zbd c 41=_ from P]
     clear P E
     have O:=Zb (Za M.out L)
     clear L
     have HF:Hid (res=false):=by
      show _=_
      rw [HE.out,U.out];rfl
     go_wp2_with fail
     go_ret
     exact ⟨by rw [HF.out];rfl,O.out⟩
    | true =>
     have R:Hid ((!(xk.toList==X.toList))=false):=by
      show _=_
      rw [u];rfl
     have U:=Zb u
     clear u
     cases ba with
     | false =>
      refine Zxr m off n kc f d n g j xk X v0 v1 v2 v3 v4 v5 D z G C F A _ _ _ rfl ⟨rfl,rfl,rfl⟩ ?_ ?_
      ·intro W o
       exact ⟨hlt,by omega,(o.cell (p:=⟨m,off+j*7,none⟩) v).trans cx,hlt,by omega,(o.cell (p:=⟨f,d+j*7,none⟩) s).trans cy,R.out,(o.cell (p:=⟨m,off+j*7+1,none⟩) v).trans c0,(o.cell (p:=⟨m,off+j*7+2,none⟩) v).trans c1,(o.cell (p:=⟨m,off+j*7+3,none⟩) v).trans c2,(o.cell (p:=⟨m,off+j*7+4,none⟩) v).trans c3,(o.cell (p:=⟨m,off+j*7+5,none⟩) v).trans c4,(o.cell (p:=⟨m,off+j*7+6,none⟩) v).trans c5,(o.cell (p:=⟨f,d+j*7+1,none⟩) s).trans d0,(o.cell (p:=⟨f,d+j*7+2,none⟩) s).trans d1,(o.cell (p:=⟨f,d+j*7+3,none⟩) s).trans d2,(o.cell (p:=⟨f,d+j*7+4,none⟩) s).trans d3,(o.cell (p:=⟨f,d+j*7+5,none⟩) s).trans d4,(o.cell (p:=⟨f,d+j*7+6,none⟩) s).trans d5,b4.out W o⟩
      intro c W3 E L P
      rw [Zj E [17,18,19,20,21,22,23,24,25,26,27,28,29,30,31,32,33,34,35,36,37,38,39,40,41] (by kernel_rfl)]
      simp only [List.foldl_cons,List.foldl_nil,List.setIfInBounds_toArray,List.set_cons_succ,List.set_cons_zero,show Zbd c 41=_ from P]
      clear P E
      have O:=Zb (Za M.out L)
      clear L
      have HF:Hid (res=false):=by
       show _=_
       rw [HE.out,U.out];rfl
      go_wp2_with fail
      go_ret
      exact ⟨by rw [HF.out];rfl,O.out⟩
     | true =>
      refine Zxs m off n kc f d n g j xk X v0 v1 v2 v3 v4 v5 D z G C F A _ _ _ rfl ⟨rfl,rfl,rfl⟩ ?_ ?_
      ·intro W o
       exact ⟨hlt,by omega,(o.cell (p:=⟨m,off+j*7,none⟩) v).trans cx,hlt,by omega,(o.cell (p:=⟨f,d+j*7,none⟩) s).trans cy,R.out,(o.cell (p:=⟨m,off+j*7+1,none⟩) v).trans c0,(o.cell (p:=⟨m,off+j*7+2,none⟩) v).trans c1,(o.cell (p:=⟨m,off+j*7+3,none⟩) v).trans c2,(o.cell (p:=⟨m,off+j*7+4,none⟩) v).trans c3,(o.cell (p:=⟨m,off+j*7+5,none⟩) v).trans c4,(o.cell (p:=⟨m,off+j*7+6,none⟩) v).trans c5,(o.cell (p:=⟨f,d+j*7+1,none⟩) s).trans d0,(o.cell (p:=⟨f,d+j*7+2,none⟩) s).trans d1,(o.cell (p:=⟨f,d+j*7+3,none⟩) s).trans d2,(o.cell (p:=⟨f,d+j*7+4,none⟩) s).trans d3,(o.cell (p:=⟨f,d+j*7+5,none⟩) s).trans d4,(o.cell (p:=⟨f,d+j*7+6,none⟩) s).trans d5,b4.out W o⟩
      intro c W3 E L P
      rw [Zj E [17,18,19,20,21,22,23,24,25,26,27,28,29,30,31,32,33,34,35,36,37,38,39,40,41] (by kernel_rfl)]
      simp only [List.foldl_cons,List.foldl_nil,List.setIfInBounds_toArray,List.set_cons_succ,List.set_cons_zero,show Zbd c 41=_ from P]
      clear P E
      have O:=Zb (Za M.out L)
      clear L
      have S:Hid (Zaa (ks.drop (j+1)) (t.drop (j+1))=res):=by
       show _=_
       rw [HE.out,U.out];rfl
      go_wp2_with fail
      go_roundw
      case rel=>exact ⟨j+1,by omega,by go_num,O.out,S.out⟩
      case measure=>simp [intOf];omega
   ·have HF:Hid (res=true):=by
     show _=_
     rw [<- a8.out,List.drop_of_length_le (by have:=a3.out;omega)];rfl
    have b0:¬ (j:Int)<n:=by omega
    go_wp2_with fail
    go_ret
    exact ⟨by rw [HF.out];rfl,M.out⟩
end
section
open Go.RowKit Go.Shelf
attribute [local go_sem] Oper.semAt_some
theorem Zie {w w1:World} {A A':Array Value} {ty:TypeId} (j:Below ((w.alloc (.cells A ty)).alloc (.cells A' ty)).heap.size ((w.alloc (.cells A ty)).alloc (.cells A' ty)) w1) :
  Below w.heap.size w w1/\(∀ i v,A[i]?=some v->w1.cell? ⟨w.heap.size,i,none⟩=some v)/\(∀ i v,A'[i]?=some v->w1.cell? ⟨w.heap.size+1,i,none⟩=some v):=by
 simp only [World.size_alloc] at j
 refine ⟨(((Below.refl _ w).alloc (Nat.le_refl _) _).alloc (by simp) _).trans (j.mono (by omega)),fun i v hi=>?_,fun i v hi=>?_⟩
 ·rw [j.cell (p:=⟨w.heap.size,i,none⟩) (by show w.heap.size<_;omega),World.cell?_of_block (Below.heap_alloc _ _ _ (by simp))]
  exact Zaj _ _ _ _ _ hi
 ·rw [j.cell (p:=⟨w.heap.size+1,i,none⟩) (by show w.heap.size+1<_;omega)]
  have:=Zaj (w.alloc (.cells A ty)) A' ty i v hi
  rwa [World.size_alloc] at this
def Ja (B:Nat) (w:World) (v:Value) (n:Zo):Prop:=∃ la lc f d,v=.agg #[.int .i64 n.id,.slice la n.labels.length lc,.slice f n.props.length d]/\(n.labels.length<=lc/\lc<=9223372036854775807)/\Zab B w la n.labels/\Jd B w (.slice f n.props.length d) n.props
def Ji (B:Nat) (w:World) (v:Value) (n:Jg):Prop:=∃ f d,v=.agg #[.int .i64 n.id,.int .i64 n.fr,.int .i64 n.tt,.string n.type,.slice f n.props.length d]/\Jd B w (.slice f n.props.length d) n.props
theorem Ja.below {B:Nat} {w w':World} (h:Below B w w') {v:Value} {n:Zo} (hn:Ja B w v n):Ja B w' v n:=by
 obtain ⟨la,lc,f,d,e,hs,S,s⟩:=hn
 exact ⟨la,lc,f,d,e,hs,S.below h,s.below h⟩
theorem Ji.below {B:Nat} {w w':World} (h:Below B w w') {v:Value} {n:Jg} (hn:Ji B w v n):Ji B w' v n:=by
 obtain ⟨f,d,e,s⟩:=hn
 exact ⟨f,d,e,s.below h⟩
theorem Ze9.lies {B:Nat} {w:World} {F off:Nat} {n:Zo} (h:Ze9 B w F off n):∃ v0 v1 v2,(w.cell? ⟨F,off,none⟩=some v0/\w.cell? ⟨F,off+1,none⟩=some v1/\w.cell? ⟨F,off+2,none⟩=some v2)/\Ja B w (.agg #[v0,v1,v2]) n:=by
 obtain ⟨la,lc,pv,hc,hs,S,s⟩:=h
 have l:=s
 obtain ⟨f,d,rfl,_⟩:=s
 exact ⟨_,_,_,hc,la,lc,f,d,rfl,hs,S,l⟩
theorem Zj3.lies {B:Nat} {w:World} {F off:Nat} {n:Jg} (h:Zj3 B w F off n):∃ v0 v1 v2 v3 v4,(w.cell? ⟨F,off,none⟩=some v0/\w.cell? ⟨F,off+1,none⟩=some v1/\w.cell? ⟨F,off+2,none⟩=some v2/\w.cell? ⟨F,off+3,none⟩=some v3/\w.cell? ⟨F,off+4,none⟩=some v4)/\Ji B w (.agg #[v0,v1,v2,v3,v4]) n:=by
 obtain ⟨pv,hc,hs,s⟩:=h
 have l:=s
 obtain ⟨f,d,rfl,_⟩:=s
 exact ⟨_,_,_,_,_,hc,f,d,rfl,l⟩
def Zu (a b:Zo):Bool:=(a.id==b.id)&&(Zac a.labels b.labels&&Zad a.props b.props)
def Je (a b:Jg):Bool:=(a.id==b.id)&&((a.fr==b.fr)&&((a.tt==b.tt)&&((a.type.toList==b.type.toList)&&Zad a.props b.props)))
theorem Zd9 (a b:Zo) (B:Nat) (v Y:Value) (w:World) (M:B<=w.heap.size) (hv:Ja B w v a) (L:Ja B w Y b):Calls Tryz.prog 45 #[v,Y] w fun e w'=>e=.returned (.bool (Zu a b))/\Below w.heap.size w w':=by
 obtain ⟨res,c⟩:∃ r,Zu a b=r:=⟨_,rfl⟩
 rw [c]
 unfold Zu at c
 obtain ⟨la,lc,f,d,rfl,⟨h1,h2⟩,S,s⟩:=hv
 obtain ⟨P,Q,o,m,rfl,⟨g1,g2⟩,V,l⟩:=L
 have O:=Zb (fun W (j:Below w.heap.size w W)=>Zmf a.labels b.labels B la P lc Q W (by have:=j.size;omega) (S.below (j.mono M)) (V.below (j.mono M)) h1 h2 g1 g2)
 have t:=Zb (fun W (j:Below w.heap.size w W)=>Zgf a.props b.props B f o d m W (by have:=j.size;omega) (s.below (j.mono M)) (l.below (j.mono M)))
 obtain ⟨bt,N⟩:∃ x,Zac a.labels b.labels=x:=⟨_,rfl⟩
 obtain ⟨bp,u⟩:∃ x,Zad a.props b.props=x:=⟨_,rfl⟩
 rw [N] at O
 rw [u] at t
 rw [N,u] at c
 obtain ⟨xi,xl,xp⟩:=a
 obtain ⟨H,yl,yp⟩:=b
 simp only at O t c |-
 have I:=Zb c
 generalize xl.length=ll at *
 generalize yl.length=ll2 at *
 generalize xp.length=pl at *
 generalize yp.length=pl2 at *
 clear S V s l N u c h1 h2 g1 g2
 obtain ⟨z,y⟩:∃ z,((w.alloc (.cells #[.int .i64 xi,.slice la ll lc,.slice f pl d] 47)).alloc (.cells #[.int .i64 H,.slice P ll2 Q,.slice o pl2 m] 47))=z:=⟨_,rfl⟩
 have HX:Hid (∀ W,Below z.heap.size z W->Below w.heap.size w W/\(∀ i v,(#[.int .i64 xi,.slice la ll lc,.slice f pl d]:Array Value)[i]?=some v->W.cell? ⟨w.heap.size,i,none⟩=some v)/\(∀ i v,(#[.int .i64 H,.slice P ll2 Q,.slice o pl2 m]:Array Value)[i]?=some v->W.cell? ⟨w.heap.size+1,i,none⟩=some v)):=fun W j=>by
  rw [<- y] at j
  exact Zie j
 have G:=Zb y
 obtain ⟨D,g,h⟩:=HX.out z (Below.refl _ _)
 have q0:=g 0 _ rfl
 have q1:=g 1 _ rfl
 have w0:=h 0 _ rfl
 have w1:=h 1 _ rfl
 have k:=Zb D
 clear y g h D
 go_enter Tryz.func45,Tryz.ntmps45
 go_upto_region 1 with fail
 rw [G.out]
 clear G
 by_cases a1:xi=H
 ·have C:(xi==H)=true:=by simp [a1]
  clear a1
  go_wp2_with fail
  refine (O.out z k.out).mono ?_
  rintro e w2 ⟨rfl,U⟩
  obtain ⟨X,g,h⟩:=HX.out w2 U
  have q2:=g 2 _ rfl
  have a0:=h 2 _ rfl
  have K:=Zb X
  clear g h X U q0 q1 w0 w1
  cases bt with
  | false =>
   have q:Hid (res=false):=by
    show _=_
    rw [<- I.out,C];rfl
   go_wp2_with fail
   go_ret
   exact ⟨by rw [q.out];rfl,K.out⟩
  | true =>
   have q:Hid (res=bp):=by
    show _=_
    rw [<- I.out,C];rfl
   go_wp2_with fail
   refine (t.out w2 K.out).mono ?_
   rintro e w3 ⟨rfl,E⟩
   have R:=Zb (Za K.out E)
   clear E
   go_wp2_with fail
   go_ret
   exact ⟨by rw [q.out];rfl,R.out⟩
 ·have C:(xi==H)=false:=by simp [a1]
  clear a1
  have q:Hid (res=false):=by
   show _=_
   rw [<- I.out,C];rfl
  go_wp2_with fail
  go_ret
  exact ⟨by rw [q.out];rfl,k.out⟩
theorem Zfd (a b:Jg) (B:Nat) (v Y:Value) (w:World) (M:B<=w.heap.size) (hv:Ji B w v a) (L:Ji B w Y b):Calls Tryz.prog 46 #[v,Y] w fun e w'=>e=.returned (.bool (Je a b))/\Below w.heap.size w w':=by
 obtain ⟨res,c⟩:∃ r,Je a b=r:=⟨_,rfl⟩
 rw [c]
 unfold Je at c
 obtain ⟨f,d,rfl,s⟩:=hv
 obtain ⟨o,m,rfl,l⟩:=L
 have t:=Zb (fun W (j:Below w.heap.size w W)=>Zgf a.props b.props B f o d m W (by have:=j.size;omega) (s.below (j.mono M)) (l.below (j.mono M)))
 obtain ⟨bp,u⟩:∃ x,Zad a.props b.props=x:=⟨_,rfl⟩
 rw [u] at t
 rw [u] at c
 obtain ⟨xi,xf,xt,xs,xp⟩:=a
 obtain ⟨H,yf,yt,ys,yp⟩:=b
 simp only at t c |-
 have I:=Zb c
 generalize xp.length=pl at *
 generalize yp.length=pl2 at *
 clear s l u c
 obtain ⟨z,y⟩:∃ z,((w.alloc (.cells #[.int .i64 xi,.int .i64 xf,.int .i64 xt,.string xs,.slice f pl d] 49)).alloc (.cells #[.int .i64 H,.int .i64 yf,.int .i64 yt,.string ys,.slice o pl2 m] 49))=z:=⟨_,rfl⟩
 have G:=Zb y
 obtain ⟨D,g,h⟩:Below w.heap.size w z/\(∀ i v,(#[.int .i64 xi,.int .i64 xf,.int .i64 xt,.string xs,.slice f pl d]:Array Value)[i]?=some v->z.cell? ⟨w.heap.size,i,none⟩=some v)/\(∀ i v,(#[.int .i64 H,.int .i64 yf,.int .i64 yt,.string ys,.slice o pl2 m]:Array Value)[i]?=some v->z.cell? ⟨w.heap.size+1,i,none⟩=some v):=by
  rw [<- y]
  exact Zie (Below.refl _ _)
 have q0:=g 0 _ rfl
 have w0:=h 0 _ rfl
 have q1:=g 1 _ rfl
 have w1:=h 1 _ rfl
 have q2:=g 2 _ rfl
 have w2:=h 2 _ rfl
 have q3:=g 3 _ rfl
 have w3:=h 3 _ rfl
 have q4:=g 4 _ rfl
 have w4:=h 4 _ rfl
 have k:=Zb D
 clear y g h D
 go_enter Tryz.func46,Tryz.ntmps46
 go_upto_region 1 with fail
 rw [G.out]
 clear G
 by_cases az1:(xi==H)=false
 ·have C:=az1
  have q:Hid (res=false):=by
   show _=_
   rw [<- I.out,C];rfl
  go_wp2_with fail
  go_ret
  exact ⟨by rw [q.out];rfl,k.out⟩
 ·have C:(xi==H)=true:=by simpa using az1
  clear az1
  by_cases az2:(xf==yf)=false
  ·have T:=az2
   have q:Hid (res=false):=by
    show _=_
    rw [<- I.out,C,T];rfl
   go_wp2_with fail
   go_ret
   exact ⟨by rw [q.out];rfl,k.out⟩
  ·have T:(xf==yf)=true:=by simpa using az2
   clear az2
   by_cases az3:(xt==yt)=false
   ·have z3:=az3
    have q:Hid (res=false):=by
     show _=_
     rw [<- I.out,C,T,z3];rfl
    go_wp2_with fail
    go_ret
    exact ⟨by rw [q.out];rfl,k.out⟩
   ·have z3:(xt==yt)=true:=by simpa using az3
    clear az3
    by_cases az4:(xs.toList==ys.toList)=false
    ·have z4:=az4
     have q:Hid (res=false):=by
      show _=_
      rw [<- I.out,C,T,z3,z4];rfl
     go_wp2_with fail
     go_ret
     exact ⟨by rw [q.out];rfl,k.out⟩
    ·have z4:(xs.toList==ys.toList)=true:=by simpa using az4
     clear az4
     have q:Hid (res=bp):=by
      show _=_
      rw [<- I.out,C,T,z3,z4];rfl
     go_wp2_with fail
     refine (t.out z k.out).mono ?_
     rintro e w3 ⟨rfl,E⟩
     have R:=Zb (Za k.out E)
     clear E
     go_wp2_with fail
     go_ret
     exact ⟨by rw [q.out];rfl,R.out⟩
end
section
open Go.RowKit Go.Shelf
attribute [local go_sem] Oper.semAt_some
def Zgn (s B:Nat) (w:World) (cs:List Value) (r:Jg):Prop:=∃ i,cs=[.int .i64 r.id,.int .i64 r.fr,.int .i64 r.tt,.string r.type,i]/\Zb6 s B w i r.props
theorem Zgo (s:Nat):Jd3 s (Zgn s) where
 keep:=fun K ⟨i,e,m⟩=>⟨i,e,m.keep K⟩
 mono:=fun G ⟨i,e,m⟩=>⟨i,e,m.mono (Nat.le_refl _) G⟩
def Zdf (s B:Nat) (w:World) (cs:List Value) (n:Zo):Prop:=∃ la lc i,cs=[.int .i64 n.id,.slice la n.labels.length lc,i]/\(n.labels.length<=lc/\lc<=maxLen)/\Zfs s B w la n.labels/\Zb6 s B w i n.props
theorem Zep (s:Nat):Jd3 s (Zdf s) where
 keep:=fun K ⟨la,lc,i,e,L,h1,m⟩=>⟨la,lc,i,e,L,h1.keep K,m.keep K⟩
 mono:=fun G ⟨la,lc,i,e,L,h1,m⟩=>⟨la,lc,i,e,L,h1.mono (Nat.le_refl _) G,m.mono (Nat.le_refl _) G⟩
set_option maxRecDepth 100000 in
set_option maxHeartbeats 4000000 in
theorem Zjo (r:Jg) (v:Value) (B:Nat) (w:World) (G:B<=w.heap.size) (hv:Ji B w v r) (hn:r.props.length<=2000000) (ht:∀ q ∈ r.props,q.2.total<=2000000) :
  Calls Tryz.prog 38 #[v] w fun e w'=>∃ cs,e=.returned (.agg cs.toArray)/\Zgn w.heap.size w'.heap.size w' cs r/\Below w.heap.size w w':=by
 obtain ⟨pa,pc,rfl,m⟩:=hv
 have C:=Zb (fun W (X:Below w.heap.size w W)=>Zju _ r.props B W (by have:=X.size;omega) (m.below (X.mono G)) hn ht)
 obtain ⟨xi,fr,tt,ty,t⟩:=r
 simp only at C |-
 obtain ⟨V,F⟩:∃ n,t.length=n:=⟨_,rfl⟩
 rw [F] at C |-
 have a0:=Zb F
 clear m hn ht F
 go_enter Tryz.func38,Tryz.ntmps38
 go_upto_region 1 with fail
 generalize A:World.alloc _ _=W1
 have I:Hid (Below w.heap.size w W1):=by rw [<- A];exact ((Below.refl _ _).alloc (Nat.le_refl _) _).alloc (by simp) _
 have u:Hid (Rec W1 w.heap.size #[.int .i64 xi,.int .i64 fr,.int .i64 tt,.string ty,.slice pa V pc] 49):=by rw [<- A];exact (Zl _ _ _).alloc _
 have y:Hid (Rec W1 (w.heap.size+1) #[.int .i64 0,.int .i64 0,.int .i64 0,.string ⟨#[]⟩,.slice none 0 0] 49):=by
  have h:=Zl (w.alloc (.cells #[.int .i64 xi,.int .i64 fr,.int .i64 tt,.string ty,.slice pa V pc] 49)) #[.int .i64 0,.int .i64 0,.int .i64 0,.string ⟨#[]⟩,.slice none 0 0] 49
  rw [World.size_alloc,A] at h
  exact h
 clear A
 have H:=u.out.cell 4 rfl
 go_wp2_with fail
 refine (C.out W1 I.out).mono ?_
 rintro e Y ⟨v2,rfl,hl,x⟩
 have HL:=Zb hl
 obtain ⟨d,g,rfl,_⟩:=hl
 have R:=Zb (Za I.out x)
 have D:=Zb (u.out.below x u.out.lt)
 have P:=Zb (y.out.below x y.out.lt)
 have a1:w.heap.size+2<=W1.heap.size:=by have:=y.out.lt;omega
 clear x H u y
 have H:=D.out.cell 4 rfl
 have O:=D.out.z 4
 go_upto_region 2 with fail
 generalize f:World.setCell _ _ _=W3
 have j:Hid (Rec W3 w.heap.size #[.int .i64 xi,.int .i64 fr,.int .i64 tt,.string ty,.slice d t.length g] 49):=by
  rw [<- f];exact D.out.set 4 _
 have c:Hid (Rec W3 (w.heap.size+1) #[.int .i64 0,.int .i64 0,.int .i64 0,.string ⟨#[]⟩,.slice none 0 0] 49):=by
  rw [<- f];exact P.out.other (by omega)
 have T:Hid (Below w.heap.size w W3):=by rw [<- f];exact R.out.setCell (p:=⟨w.heap.size,4,none⟩) (Nat.le_refl _) _
 have S:W3.heap.size=Y.heap.size:=by rw [<- f];simp
 have Q:Hid (Zb6 W1.heap.size W3.heap.size W3 (.slice d t.length g) t):=by
  show Zb6 _ _ _ _ _
  rw [S]
  refine HL.out.keep fun b o h1 h2=>?_
  have E:w.heap.size≠b:=by omega
  have e:W3.heap[b]?=Y.heap[b]?:=by rw [<- f,Below.heap_setCell _ _ _ _ (Ne.symm E)]
  exact ⟨World.cell?_of_block e,by unfold World.frozen?;rw [e]⟩
 clear f H O
 have r0:=j.out.cell 0 rfl
 have r1:=j.out.cell 1 rfl
 have r2:=j.out.cell 2 rfl
 have r3:=j.out.cell 3 rfl
 have H:=j.out.cell 4 rfl
 have q0:=c.out.cell 0 rfl
 have z0:=c.out.z 0
 have q1:=c.out.cell 1 rfl
 have z1:=c.out.z 1
 have q2:=c.out.cell 2 rfl
 have z2:=c.out.z 2
 have q3:=c.out.cell 3 rfl
 have z3:=c.out.z 3
 have q4:=c.out.cell 4 rfl
 have O:=c.out.z 4
 go_wp2_with fail
 generalize k:World.setCell _ _ _=W4
 have l:Hid (Rec W4 (w.heap.size+1) #[.int .i64 xi,.int .i64 fr,.int .i64 tt,.string ty,.slice d t.length g] 49):=by
  rw [<- k]
  exact (((((c.out.set 0 _).set 1 _).set 2 _).set 3 _).set 4 _)
 have U:Hid (Below w.heap.size w W4):=by
  rw [<- k]
  exact (((((T.out.setCell (p:=⟨w.heap.size+1,0,none⟩) (Nat.le_succ _) _).setCell (p:=⟨w.heap.size+1,1,none⟩) (Nat.le_succ _) _).setCell (p:=⟨w.heap.size+1,2,none⟩) (Nat.le_succ _) _).setCell (p:=⟨w.heap.size+1,3,none⟩) (Nat.le_succ _) _).setCell (p:=⟨w.heap.size+1,4,none⟩) (Nat.le_succ _) _)
 have M:W4.heap.size=W3.heap.size:=by rw [<- k];simp
 have N:Hid (Zb6 w.heap.size W4.heap.size W4 (.slice d t.length g) t):=by
  show Zb6 _ _ _ _ _
  rw [M]
  refine Zb6.mono (by omega) (Nat.le_refl _) (Q.out.keep fun b o h1 h2=>?_)
  have E:w.heap.size+1≠b:=by omega
  have e:W4.heap[b]?=W3.heap[b]?:=by
   rw [<- k]
   repeat rw [Below.heap_setCell _ _ _ _ (Ne.symm E)]
  exact ⟨World.cell?_of_block e,by unfold World.frozen?;rw [e]⟩
 clear k r0 r1 r2 r3 H q0 q1 q2 q3 q4 z0 z1 z2 z3 O
 have p0:=l.out.cell 0 rfl
 have p1:=l.out.cell 1 rfl
 have p2:=l.out.cell 2 rfl
 have p3:=l.out.cell 3 rfl
 have p4:=l.out.cell 4 rfl
 refine bodyPost_ret (v:=.agg #[.int .i64 xi,.int .i64 fr,.int .i64 tt,.string ty,.slice d t.length g]) ?_ rfl ⟨[.int .i64 xi,.int .i64 fr,.int .i64 tt,.string ty,.slice d t.length g],rfl,⟨_,rfl,N.out⟩,U.out⟩
 simp [results,Tryz.results38,go_sem,p0,p1,p2,p3,p4]
end
section
open Go.RowKit Go.Shelf
attribute [local go_sem] Oper.semAt_some
set_option maxRecDepth 100000 in
set_option maxHeartbeats 4000000 in
theorem Zg9 (r:Zo) (v:Value) (B:Nat) (w:World) (hB:B<=w.heap.size) (hv:Ja B w v r) (hm:r.labels.length<=2000000) (hn:r.props.length<=2000000) (ht:∀ q ∈ r.props,q.2.total<=2000000) :
  Calls Tryz.prog 36 #[v] w fun e w'=>∃ cs,e=.returned (.agg cs.toArray)/\Zdf w.heap.size w'.heap.size w' cs r/\Below w.heap.size w w':=by
 obtain ⟨la,lc,pa,pc,rfl,_,hk,hp⟩:=hv
 have M:=Zb (fun W (H:Below w.heap.size w W)=>Zk5 B la lc r.labels W (hk.below (H.mono hB)) hm)
 have G:=Zb (fun W (H:Below w.heap.size w W)=>Zju _ r.props B W (by have:=H.size;omega) (hp.below (H.mono hB)) hn ht)
 obtain ⟨xi,U,I⟩:=r
 simp only at M G |-
 generalize y:U.length=ll at M |-
 generalize b5:I.length=pl at G |-
 have a5:=Zb y
 clear hk hp hm hn ht y b5
 go_enter Tryz.func36,Tryz.ntmps36
 go_upto_region 1 with fail
 generalize E:World.alloc _ _=W1
 have i:Hid (Below w.heap.size w W1):=by rw [<- E];exact ((Below.refl _ _).alloc (Nat.le_refl _) _).alloc (by simp) _
 have D:Hid (Rec W1 w.heap.size #[.int .i64 xi,.slice la ll lc,.slice pa pl pc] 47):=by rw [<- E];exact (Zl _ _ _).alloc _
 have x:Hid (Rec W1 (w.heap.size+1) #[.int .i64 0,.slice none 0 0,.slice none 0 0] 47):=by
  have h:=Zl (w.alloc (.cells #[.int .i64 xi,.slice la ll lc,.slice pa pl pc] 47)) #[.int .i64 0,.slice none 0 0,.slice none 0 0] 47
  rw [World.size_alloc,E] at h
  exact h
 clear E
 have a1:=D.out.cell 1 rfl
 have a2:=D.out.cell 2 rfl
 go_region_with (first | (refine (M.out _ (by first | exact i.out | exact i.out.drew | exact i.out.drew.drew)).mono ?_;rintro e O ⟨u,C,rfl,hs,P,j⟩;have a0:=Zb hs;have a9:=Zb P;have c:Hid (Below W1.heap.size W1 O):=⟨j.1,j.2,j.3,j.4,j.5⟩;have L:=Zb (D.out.below c.out D.out.lt);have b2:=L.out.cell 2 rfl;clear hs P j) | (refine (G.out _ (by first | exact Za i.out c.out | exact (Za i.out c.out).drew)).mono ?_;rintro e s ⟨v3,rfl,Q,k⟩;have a3:=Zb Q;obtain ⟨l,m,rfl,a7,b4,a8⟩:=Q;clear a7 b4 a8;have d:Hid (Below O.heap.size O s):=⟨k.1,k.2,k.3,k.4,k.5⟩;have n:=Zb (L.out.below d.out L.out.lt);have y1:=n.out.cell 1 rfl;have y2:=n.out.cell 2 rfl;have z1:=n.out.z 1;have z2:=n.out.z 2;clear k))
 all_goals
  clear a1 a2 b2 y1 y2 z1 z2
  have b7:w.heap.size+2<=W1.heap.size:=by have:=x.out.lt;omega
  have a4:=Zb ((x.out.below c.out x.out.lt).below d.out (x.out.below c.out x.out.lt).lt)
  have b0:=Zb (Za (Za i.out c.out) d.out)
  have X:Hid (Zfs W1.heap.size s.heap.size s u U):=(Zfs.keep (Zde d.out (Nat.le_refl _)) a9.out).mono (Nat.le_refl _) d.out.size
  have T:Hid (Zb6 O.heap.size s.heap.size s (.slice l I.length m) I):=a3.out
  have b6:W1.heap.size<=O.heap.size:=c.out.size
  generalize g:World.setCell _ _ _=W4
  have K:Hid (Rec W4 w.heap.size #[.int .i64 xi,.slice u ll C,.slice l I.length m] 47):=by
   rw [<- g];exact (n.out.set 1 _).set 2 _
  have f:Hid (Rec W4 (w.heap.size+1) #[.int .i64 0,.slice none 0 0,.slice none 0 0] 47):=by
   rw [<- g];exact (a4.out.other (by omega)).other (by omega)
  have b1:Hid (Below w.heap.size w W4):=by rw [<- g];exact (b0.out.setCell (p:=⟨w.heap.size,1,none⟩) (Nat.le_refl _) _).setCell (p:=⟨w.heap.size,2,none⟩) (Nat.le_refl _) _
  have V:W4.heap.size=s.heap.size:=by rw [<- g];simp
  have Y:Hid (∀ b,w.heap.size≠b->W4.heap[b]?=s.heap[b]?):=fun b H=>by
   rw [<- g]
   repeat rw [Below.heap_setCell _ _ _ _ (Ne.symm H)]
  clear g
  have r0:=K.out.cell 0 rfl
  have r1:=K.out.cell 1 rfl
  have r2:=K.out.cell 2 rfl
  have q0:=f.out.cell 0 rfl
  have q1:=f.out.cell 1 rfl
  have q2:=f.out.cell 2 rfl
  have f0:=f.out.z 0
  have f1:=f.out.z 1
  have f2:=f.out.z 2
  go_wp2_with fail
  generalize t:World.setCell _ _ _=W5
  have F:Hid (Rec W5 (w.heap.size+1) #[.int .i64 xi,.slice u ll C,.slice l I.length m] 47):=by
   rw [<- t];exact ((f.out.set 0 _).set 1 _).set 2 _
  have b3:Hid (Below w.heap.size w W5):=by
   rw [<- t]
   exact ((b1.out.setCell (p:=⟨w.heap.size+1,0,none⟩) (Nat.le_succ _) _).setCell (p:=⟨w.heap.size+1,1,none⟩) (Nat.le_succ _) _).setCell (p:=⟨w.heap.size+1,2,none⟩) (Nat.le_succ _) _
  have S:W5.heap.size=s.heap.size:=by rw [<- t];simp [V]
  have N:Hid (∀ b,W1.heap.size<=b->W5.heap[b]?=s.heap[b]?):=fun b H=>by
   have a6:w.heap.size+1≠b:=by omega
   rw [<- t]
   repeat rw [Below.heap_setCell _ _ _ _ (Ne.symm a6)]
   exact Y.out b (by omega)
  have R:Hid (Zb9 W1.heap.size s.heap.size s W5):=fun b o h1 h2=>⟨World.cell?_of_block (N.out b h1),by unfold World.frozen?;rw [N.out b h1]⟩
  clear t r0 r1 r2 q0 q1 q2 f0 f1 f2
  have p0:=F.out.cell 0 rfl
  have p1:=F.out.cell 1 rfl
  have p2:=F.out.cell 2 rfl
  have y:=a5.out
  subst y
  refine bodyPost_ret (v:=.agg #[.int .i64 xi,.slice u U.length C,.slice l I.length m]) ?_ rfl ⟨[.int .i64 xi,.slice u U.length C,.slice l I.length m],rfl,⟨_,_,_,rfl,a0.out,?_,?_⟩,b3.out⟩
  ·simp [results,Tryz.results36,go_sem,p0,p1,p2]
  ·rw [S]
   exact (X.out.keep R.out).mono (by omega) (Nat.le_refl _)
  ·rw [S]
   exact Zb6.mono (by omega) (Nat.le_refl _) (T.out.keep fun b o h1 h2=>R.out b o (by omega) h2)
end
